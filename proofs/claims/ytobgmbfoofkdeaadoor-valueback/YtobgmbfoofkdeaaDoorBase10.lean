/- ValRowF, ValImplC, ValImplP, GenFrame, ValFrame: our own definitions and contracts; no statement of the seat is proved here. -/
import Derived.Test.YtobgmbfoofkdeaaDoorBase03
import Derived.Test.YtobgmbfoofkdeaaDoorBase08
import Derived.Test.YtobgmbfoofkdeaaDoorBase05
import Derived.Test.YtobgmbfoofkdeaaDoorBase00
import Derived.Test.YtobgmbfoofkdeaaDoorRows
import Derived.ProofKit
import Derived.OpenShut
import Derived.Test.YtobgmbfoofkdeaaDoorBase01
namespace Go.Proofs.YtobgmbfoofkdeaaDoor
open Go.RowKit

/-- Nothing of the block is frozen. -/
def NFz (W : World) (k : Nat) : Prop := ∀ i, W.frozen? ⟨k, i, none⟩ = false
theorem NFz.keep {W W' : World} {k : Nat} (h : NFz W k) (e : W'.heap[k]? = W.heap[k]?) : NFz W' k := fun i => (World.frozen?_of_block (a := ⟨k, i, none⟩) e).trans (h i)
theorem VD.At.laterF {B0 : Nat} {W W' : World} {v : VD} {u : Value} (h : v.At (fun k => B0 ≤ k ∧ NFz W k) W u) (hb : Below W.heap.size W W') : v.At (fun k => B0 ≤ k ∧ NFz W' k) W' u :=
  h.kept (fun k _ hk => hb.block k hk) (fun k hk hlt => ⟨hk.1, hk.2.keep (hb.block k hlt)⟩)

/-- The slice r, in a block of ours from B0 on, holds the values; their lists lie in other blocks from B0 on. -/
structure ValsF (B0 : Nat) (W : World) (r : Value) (q : List VD) : Prop where
  row : ∃ xs, W.ownsRow 0 24 4 r q.length xs ∧ ∀ i (h : i < q.length), (q[i]'h).At (fun k => (B0 ≤ k ∧ NFz W k) ∧ r.ownBlock ≠ some k) W (aggAt xs i)
  new : ∀ k, r.ownBlock = some k → B0 ≤ k
theorem ValsF.nil (B0 : Nat) (W : World) : ValsF B0 W (.slice none 0 0) [] := ⟨⟨[], World.ownsRow_nil W 0 _ 4, fun i h => absurd h (Nat.not_lt_zero i)⟩, fun k hk => by cases hk⟩
theorem ValsF.later {B0 : Nat} {W W' : World} {r : Value} {q : List VD} (h : ValsF B0 W r q) (hb : Below W.heap.size W W') : ValsF B0 W' r q := by
  obtain ⟨⟨xs, h1, h2⟩, h3⟩ := h
  exact ⟨⟨xs, ownsV_keeps h1 fun k hk => hb.block k (h1.lt k hk).2, fun i hi => (h2 i hi).kept (fun k _ hk => hb.block k hk) (fun k hk hlt => ⟨⟨hk.1.1, hk.1.2.keep (hb.block k hlt)⟩, hk.2⟩)⟩, h3⟩
/-- A store elsewhere. -/
theorem ValsF.set {B0 : Nat} {W : World} {r : Value} {q : List VD} (h : ValsF B0 W r q) {p : Addr} (hp : p.block < B0) (v : Value) : ValsF B0 (W.setCell p v) r q := by
  obtain ⟨⟨xs, h1, h2⟩, h3⟩ := h
  refine ⟨⟨xs, ownsV_keeps h1 fun k hk => Below.heap_setCell _ _ _ _ (by have := h3 k hk; omega), fun i hi => (h2 i hi).kept (fun k hk _ => Below.heap_setCell _ _ _ _ (by have := hk.1.1; omega)) (fun k hk _ => ⟨⟨hk.1.1, hk.1.2.keep (Below.heap_setCell _ _ _ _ (by have := hk.1.1; omega))⟩, hk.2⟩)⟩, h3⟩
/-- What such a row reads as. -/
theorem ValsF.at {B0 : Nat} {W : World} {r : Value} {q : List VD} (h : ValsF B0 W r q) {k : Nat} {n : Int} {s : List UInt8} (hk : k < 256) (hn : InR n) (hs : s.length ≤ maxLen) : (VD.mk k n s q).At (fun b => B0 ≤ b ∧ NFz W b) W (.agg #[.int .u8 ((k : Nat) : Int), .int .i64 n, .string ⟨s.toArray⟩, r]) := by
  obtain ⟨⟨xs, h1, h2⟩, h3⟩ := h
  rw [VD.at_iff]
  rcases h1.2 with ⟨e, e0⟩ | ⟨g, cap, cur, e, _, hg, hc, hm, hcs, htk⟩
  · subst e
    have : q = [] := List.eq_nil_of_length_eq_zero e0
    subst this
    exact ⟨none, 0, rfl, hk, hn, hs, Nat.le_refl _, Nat.zero_le _, fun j hj => absurd hj (Nat.not_lt_zero j)⟩
  · subst e
    have hxl : xs.length = q.length * 4 := h1.1
    refine ⟨some ⟨g, 0, none⟩, cap, rfl, hk, hn, hs, hc, hm, fun j hj => ?_⟩
    have hj : j < q.length := hj
    have hcell : ∀ p, p < q.length * 4 → W.cell? ⟨g, 0 + p, none⟩ = some (xs.getD p undef) := fun p hp => by
      have h5 := h1.cells (g := g) rfl p (xs.getD p undef) (by rw [List.getD_eq_getElem?_getD, List.getElem?_eq_getElem (by omega)]; rfl)
      rw [Addr.add_mid] at h5
      exact h5
    refine ⟨g, 0, _, _, _, _, rfl, ⟨h3 g rfl, fun i => frozen_of_row _ _ _ _ _ hg⟩, hcell (j * 4) (by omega), ?_, ?_, ?_, (h2 j hj).wider fun b hb => hb.1⟩
    · have := hcell (j * 4 + 1) (by omega); rwa [show 0 + (j * 4 + 1) = 0 + j * 4 + 1 by omega] at this
    · have := hcell (j * 4 + 2) (by omega); rwa [show 0 + (j * 4 + 2) = 0 + j * 4 + 2 by omega] at this
    · have := hcell (j * 4 + 3) (by omega); rwa [show 0 + (j * 4 + 3) = 0 + j * 4 + 3 by omega] at this
theorem ValsF.form {B0 : Nat} {W : World} {r : Value} {q : List VD} (h : ValsF B0 W r q) : ∃ a c, r = .slice a q.length c ∧ q.length ≤ c := by
  obtain ⟨⟨xs, h1, h2⟩, h3⟩ := h
  rcases h1.2 with ⟨e, e0⟩ | ⟨g, cap, cur, e, _, hg, hc, _⟩
  · exact ⟨none, 0, by rw [e, e0], by omega⟩
  · exact ⟨_, cap, e, hc⟩

/-- append of one value: the row goes on in its block, or in a new one. -/
theorem ValsF.append {B0 : Nat} {W : World} {r : Value} {q : List VD} (h : ValsF B0 W r q) (hB : B0 ≤ W.heap.size) {x : VD} {e0 e1 e2 e3 : Value} (hx : x.At (fun k => (B0 ≤ k ∧ NFz W k) ∧ r.ownBlock ≠ some k) W (.agg #[e0, e1, e2, e3])) {ad : Addr} {c : Nat}
    (d0 : W.cell? (ad.add 0) = some e0) (d1 : W.cell? (ad.add 1) = some e1) (d2 : W.cell? (ad.add 2) = some e2) (d3 : W.cell? (ad.add 3) = some e3) (hl : q.length ≤ 1048576) (ty : TypeId) :
    ∃ r' W', (Builtin.append_ #[22, 22] ty #[r, .slice (some ad) 1 c]).run Tryd.prog W = .ok r' W' ∧ ValsF B0 W' r' (q ++ [x]) ∧ W.grownBy W' r.ownBlock := by
  obtain ⟨i, z, hi, hz, hs, hb, hzs⟩ := infoVal
  obtain ⟨⟨xs, h1, h2⟩, h3⟩ := h
  have hxl : xs.length = q.length * 4 := h1.1
  have hone : ∀ u ∈ [e0, e1, e2, e3], u.oneCell' = true := by
    rw [VD.at_iff] at hx
    obtain ⟨a, c', h, _⟩ := hx
    simp only [Value.agg.injEq] at h
    have h := congrArg Array.toList h
    simp only [List.cons.injEq, and_true] at h
    obtain ⟨rfl, rfl, rfl, rfl⟩ := h
    intro u hu
    simp only [List.mem_cons, List.mem_nil_iff, or_false] at hu
    rcases hu with rfl | rfl | rfl | rfl <;> rfl
  have hcells : ∀ j u, [e0, e1, e2, e3][j]? = some u → W.cell? (ad.add j) = some u := fun j u hj => by
    match j, hj with
    | 0, hj => cases hj; exact d0
    | 1, hj => cases hj; exact d1
    | 2, hj => cases hj; exact d2
    | 3, hj => cases hj; exact d3
  have fin : ∀ r' W', W'.ownsRow 0 24 4 r' (q.length + 1) (xs ++ [e0, e1, e2, e3]) → W.grownBy W' r.ownBlock → (r'.ownBlock = r.ownBlock ∨ ∃ k, r'.ownBlock = some k ∧ W.heap.size ≤ k) → ValsF B0 W' r' (q ++ [x]) := fun r' W' g1 g2 g3 => by
    have kept : ∀ {y : VD} {u : Value}, y.At (fun k => (B0 ≤ k ∧ NFz W k) ∧ r.ownBlock ≠ some k) W u → y.At (fun k => (B0 ≤ k ∧ NFz W' k) ∧ r'.ownBlock ≠ some k) W' u := fun hy =>
      hy.kept (fun k hk hlt => g2.block k hlt (fun e => hk.2 e.symm)) (fun k hk hlt => ⟨⟨hk.1.1, hk.1.2.keep (g2.block k hlt (fun e => hk.2 e.symm))⟩, fun e => by
        rcases g3 with e2 | ⟨k', e2, hle⟩
        · rw [e2] at e; exact hk.2 e
        · rw [e2] at e; cases e; omega⟩)
    refine ⟨⟨xs ++ [e0, e1, e2, e3], by rw [List.length_append, List.length_singleton]; exact g1, fun i hi => ?_⟩, fun k hk => ?_⟩
    · rw [List.length_append, List.length_singleton] at hi
      by_cases hlt : i < q.length
      · rw [List.getElem_append_left hlt]
        have ge : ∀ p, p < q.length * 4 → (xs ++ [e0, e1, e2, e3]).getD p undef = xs.getD p undef := fun p hp => by
          rw [List.getD_eq_getElem?_getD, List.getD_eq_getElem?_getD, List.getElem?_append_left (by omega)]
        have e : aggAt (xs ++ [e0, e1, e2, e3]) i = aggAt xs i := by unfold aggAt; rw [ge _ (by omega), ge _ (by omega), ge _ (by omega), ge _ (by omega)]
        rw [e]
        exact kept (h2 i hlt)
      · have hi' : i = q.length := by omega
        subst hi'
        rw [List.getElem_append_right (Nat.le_refl _)]
        have ge : ∀ p, p < 4 → (xs ++ [e0, e1, e2, e3]).getD (q.length * 4 + p) undef = [e0, e1, e2, e3].getD p undef := fun p hp => by
          rw [List.getD_eq_getElem?_getD, List.getD_eq_getElem?_getD, List.getElem?_append_right (by omega), hxl, Nat.add_sub_cancel_left]
        have e : aggAt (xs ++ [e0, e1, e2, e3]) q.length = .agg #[e0, e1, e2, e3] := by
          unfold aggAt
          have z0 := ge 0 (by omega)
          rw [Nat.add_zero] at z0
          rw [z0, ge 1 (by omega), ge 2 (by omega), ge 3 (by omega)]
          rfl
        rw [e]
        simpa using kept hx
    · rcases g3 with e2 | ⟨k', e2, hle⟩
      · rw [e2] at hk; exact h3 k hk
      · rw [e2] at hk; cases hk; omega
  rcases h1.2 with ⟨rfl, hn⟩ | ⟨g, cap, cur, rfl, _, hg, hnc, hcm, hcs, htk⟩
  · have hxn : xs = [] := List.eq_nil_of_length_eq_zero (by omega)
    subst hxn
    obtain ⟨r', W', hrun, r1, r2, _⟩ := run_append_own (P := Tryd.prog) W W.heap.size 22 ty 24 i z 4 56 Tryd.underlying22 hi hz hs hb hzs (by decide) (.slice none 0 0) 0 [] (World.ownsRow_nil W _ _ 4) ad 1 c [e0, e1, e2, e3] rfl hcells hone (by unfold maxLen; omega) (by omega) (Nat.le_refl _)
    refine ⟨r', W', hrun, fin r' W' ?_ r2 ?_, r2⟩
    · rw [hn]
      refine ⟨r1.1, ?_⟩
      rcases r1.2 with ⟨a, b⟩ | ⟨g, cap, cur, a, b, rest⟩
      · exact .inl ⟨a, b⟩
      · exact .inr ⟨g, cap, cur, a, Nat.zero_le _, rest⟩
    · rcases r1.2 with ⟨a, b⟩ | ⟨g, cap, cur, a, b, rest⟩
      · omega
      · exact .inr ⟨g, by rw [a]; rfl, b⟩
  · by_cases hroom : q.length + 1 ≤ cap
    · obtain ⟨W', hrun, r1, r2⟩ := run_append_fits (P := Tryd.prog) W 0 22 ty 24 i 4 Tryd.underlying22 hi hs g q.length cap xs h1 ad 1 c [e0, e1, e2, e3] rfl hcells hone hroom
      exact ⟨_, W', hrun, fin _ W' r1 r2 (.inl rfl), r2⟩
    · have hold : ∀ j u, xs[j]? = some u → W.cell? ((⟨g, 0, none⟩ : Addr).add j) = some u := h1.cells (g := g) rfl
      obtain ⟨r', W', hrun, r1, r2⟩ := run_append_arg_grows (P := Tryd.prog) W 22 ty 24 i z 4 56 Tryd.underlying22 hi hz hs hb hzs (by decide) ⟨g, 0, none⟩ q.length cap xs hxl hold ad 1 c [e0, e1, e2, e3] rfl hcells (by omega) (by unfold maxLen; omega) (by omega)
      have r3 : W.grownBy W' (some g) := ⟨r2.os, r2.tape, r2.output, r2.size, fun k hk _ => r2.block k hk (by simp)⟩
      refine ⟨r', W', hrun, fin r' W' ?_ r3 ?_, r3⟩
      · refine ⟨r1.1, ?_⟩
        rcases r1.2 with ⟨a, b⟩ | ⟨g', cap', cur', a, b, rest⟩
        · exact .inl ⟨a, b⟩
        · exact .inr ⟨g', cap', cur', a, Nat.zero_le _, rest⟩
      · rcases r1.2 with ⟨a, b⟩ | ⟨g', cap', cur', a, b, rest⟩
        · omega
        · exact .inr ⟨g', by rw [a]; rfl, b⟩
end Go.Proofs.YtobgmbfoofkdeaaDoor

namespace Go.Proofs.YtobgmbfoofkdeaaDoor
open Go.RowKit

/-- The copy under way: its struct in the third block, its row behind. -/
structure LoopC (w : World) (K : Nat) (N : Int) (z : ByteArray) (r : Value) (q : List VD) (W : World) : Prop where
  below : Below w.heap.size w W
  size : w.heap.size + 3 ≤ W.heap.size
  c4 : W.heap[w.heap.size + 1]? = some (.cells #[.int .u8 0, .int .i64 0, .string ⟨#[]⟩, .slice none 0 0] 24 (0, 0))
  c8 : W.heap[w.heap.size + 2]? = some (.cells #[.int .u8 ((K : Nat) : Int), .int .i64 N, .string z, r] 24 (0, 0))
  vals : ValsF (w.heap.size + 3) W r q
theorem LoopC.later {w W W' : World} {K : Nat} {N : Int} {z : ByteArray} {r : Value} {q : List VD} (h : LoopC w K N z r q W) (hb : Below W.heap.size W W') : LoopC w K N z r q W' :=
  ⟨h.below.trans (hb.mono h.below.size), Nat.le_trans h.size hb.size, by rw [hb.block _ (lt_rowV h.c4)]; exact h.c4, by rw [hb.block _ (lt_rowV h.c8)]; exact h.c8, h.vals.later hb⟩
/-- Behind the copy of one: what append does. -/
theorem LoopC.next {w W4 W5 : World} {K : Nat} {N : Int} {z : ByteArray} {r : Value} {q : List VD} (h : LoopC w K N z r q W4) (hb : Below W4.heap.size W4 W5) {x : VD} {xK xl xc : Nat} {xN : Int} {xz : ByteArray} {xa : Option Addr} (hx : x.At (fun k => W4.heap.size ≤ k ∧ NFz W5 k) W5 (.agg #[.int .u8 ((xK : Nat) : Int), .int .i64 xN, .string xz, .slice xa xl xc])) (hl : q.length ≤ 1048576) (ty : TypeId) :
    ∃ ra' rc' W7, (Builtin.append_ #[22, 22] ty #[r, .slice (some ⟨W5.heap.size, 0, none⟩) 1 1]).run Tryd.prog (W5.alloc (.cells #[.int .u8 ((xK : Nat) : Int), .int .i64 xN, .string xz, .slice xa xl xc] 24)) = .ok (.slice ra' (q.length + 1) rc') W7 ∧
      (W7.cell? ⟨w.heap.size + 2, 3, none⟩ = some r ∧ W7.frozen? ⟨w.heap.size + 2, 3, none⟩ = false) ∧ LoopC w K N z (.slice ra' (q.length + 1) rc') (q ++ [x]) (W7.setCell ⟨w.heap.size + 2, 3, none⟩ (.slice ra' (q.length + 1) rc')) := by
  have h5 := h.later hb
  obtain ⟨W6, hW6⟩ : ∃ W6, W6 = W5.alloc (.cells #[.int .u8 ((xK : Nat) : Int), .int .i64 xN, .string xz, .slice xa xl xc] 24) := ⟨_, rfl⟩
  have hb6 : Below W5.heap.size W5 W6 := by rw [hW6]; exact (Below.refl _ _).alloc (Nat.le_refl _) _
  have hr6 : W6.heap[W5.heap.size]? = some (.cells #[.int .u8 ((xK : Nat) : Int), .int .i64 xN, .string xz, .slice xa xl xc] 24 (0, 0)) := by rw [hW6]; exact heap_alloc_new W5 _
  obtain ⟨⟨i0, i1, i2, i3⟩, _⟩ := cells4 hr6
  have h6 := h5.later hb6
  have hx6 : x.At (fun k => (w.heap.size + 3 ≤ k ∧ NFz W6 k) ∧ r.ownBlock ≠ some k) W6 (.agg #[.int .u8 ((xK : Nat) : Int), .int .i64 xN, .string xz, .slice xa xl xc]) :=
    hx.kept (fun k _ hk => hb6.block k hk) (fun k hk hlt => ⟨⟨Nat.le_trans h.size hk.1, hk.2.keep (hb6.block k hlt)⟩, fun e => by
      obtain ⟨xs, h1, _⟩ := h.vals.row
      have := (h1.lt k e).2
      have := hk.1
      omega⟩)
  obtain ⟨r', W7, hrun, hv, hg⟩ := h6.vals.append h6.size hx6 (ad := ⟨W5.heap.size, 0, none⟩) (c := 1) (by rw [Addr.add_mid]; exact i0) (by rw [Addr.add_mid]; exact i1) (by rw [Addr.add_mid]; exact i2) (by rw [Addr.add_mid]; exact i3) hl ty
  obtain ⟨ra', rc', rfl, _⟩ := hv.form
  rw [List.length_append, List.length_singleton] at hv hrun
  have blk : ∀ k, k < w.heap.size + 3 → W7.heap[k]? = W6.heap[k]? := fun k hk => hg.block k (Nat.lt_of_lt_of_le hk h6.size) fun e => by
    have := h6.vals.new k (by rw [← e])
    omega
  have k8 : W7.heap[w.heap.size + 2]? = some (.cells #[.int .u8 ((K : Nat) : Int), .int .i64 N, .string z, r] 24 (0, 0)) := by rw [blk _ (by omega)]; exact h6.c8
  have hb7 : Below w.heap.size w W7 := h6.below.trans ⟨hg.os, hg.tape, hg.output, hg.size, fun k hk => blk k (by omega)⟩
  have hsz : (W7.setCell ⟨w.heap.size + 2, 3, none⟩ (.slice ra' (q.length + 1) rc')).heap.size = W7.heap.size := World.size_setCell _ _ _
  rw [hW6] at hrun
  refine ⟨ra', rc', W7, hrun, ⟨cell_of_row _ _ 3 _ _ _ k8, frozen_of_row _ _ _ _ _ k8⟩, hb7.setCell (p := ⟨w.heap.size + 2, 3, none⟩) (by show w.heap.size ≤ w.heap.size + 2; omega) _, ?_, ?_, ?_, hv.set (p := ⟨w.heap.size + 2, 3, none⟩) (by show w.heap.size + 2 < _; omega) _⟩
  · rw [hsz]; exact Nat.le_trans h6.size hg.size
  · rw [Below.heap_setCell _ _ _ _ (by show w.heap.size + 1 ≠ w.heap.size + 2; omega), blk _ (by omega)]; exact h6.c4
  · exact heap_setCell_same _ _ _ _ _ _ k8

/-- What copyAt tells. -/
def Copied (w : World) (v : VD) (e : Ending) (W : World) : Prop :=
  ∃ (xK xl xc : Nat) (xN : Int) (xz : ByteArray) (xa : Option Addr), e = .returned (.agg #[.int .u8 ((xK : Nat) : Int), .int .i64 xN, .string xz, .slice xa xl xc]) ∧ v.At (fun k => w.heap.size ≤ k ∧ NFz W k) W (.agg #[.int .u8 ((xK : Nat) : Int), .int .i64 xN, .string xz, .slice xa xl xc]) ∧ Below w.heap.size w W

set_option maxRecDepth 100000 in
set_option maxHeartbeats 1000000 in
theorem copyAt_any (v : VD) : ∀ (B : Nat → Prop) (u : Value) (w : World) (d : Nat), v.At B w u → v.parts ≤ 1000000 → d + v.deep ≤ 60000 →
    Calls Tryd.prog 46 #[u, .int .i64 ((d : Nat) : Int)] w (Copied w v) := by
  induction v using VD.induct with
  | h v ih =>
    intro B u w d hA hm hd
    obtain ⟨hkb, hnb, hsb⟩ : v.k < 256 ∧ InR v.n ∧ v.s.length ≤ maxLen := by
      have h0 := hA
      rw [VD.at_iff] at h0
      obtain ⟨_, _, _, h1, h2, h3, _⟩ := h0
      exact ⟨h1, h2, h3⟩
    have HKB := hide hkb
    have HNB := hide hnb
    have HSB := hide hsb
    obtain ⟨a, cp, rfl, hlc, hbox⟩ := hA.box
    have HEL := hide hA.elems
    obtain ⟨n, hn⟩ : ∃ n, n = v.l.length := ⟨_, rfl⟩
    obtain ⟨K, hK⟩ : ∃ K, K = v.k := ⟨_, rfl⟩
    obtain ⟨N, hN⟩ : ∃ N, N = v.n := ⟨_, rfl⟩
    obtain ⟨z, hz⟩ : ∃ z : ByteArray, z = ⟨v.s.toArray⟩ := ⟨_, rfl⟩
    rw [← hn, ← hK, ← hN, ← hz] at ⊢
    rw [← hn] at hlc
    have HN := hide hn
    have HKE := hide hK
    have HNE := hide hN
    have HZE := hide hz
    have hn6 : n ≤ 1000000 := by have h1 := VD.partsL_length v.l; have h2 := v.parts_mk; omega
    obtain ⟨W1, hW1⟩ : ∃ W1, W1 = ((w.alloc (.cells #[.int .u8 ((K : Nat) : Int), .int .i64 N, .string z, .slice a n cp] 24)).alloc (.cells #[.int .u8 0, .int .i64 0, .string ⟨#[]⟩, .slice none 0 0] 24)) := ⟨_, rfl⟩
    obtain ⟨W2, hW2⟩ : ∃ W2, W2 = W1.alloc (.cells #[.int .u8 ((K : Nat) : Int), .int .i64 N, .string z, .slice none 0 0] 24) := ⟨_, rfl⟩
    have hs1 : W1.heap.size = w.heap.size + 2 := by rw [hW1]; simp
    have hb0 : Below w.heap.size w (w.alloc (.cells #[.int .u8 ((K : Nat) : Int), .int .i64 N, .string z, .slice a n cp] 24)) := (Below.refl _ w).alloc (Nat.le_refl _) _
    have hb1 : Below w.heap.size w W1 := by rw [hW1]; exact hb0.alloc hb0.size _
    have hb12 : Below W1.heap.size W1 W2 := by rw [hW2]; exact (Below.refl _ W1).alloc (Nat.le_refl _) _
    have hb2 : Below w.heap.size w W2 := hb1.trans (hb12.mono hb1.size)
    have hr1 : W1.heap[w.heap.size]? = some (.cells #[.int .u8 ((K : Nat) : Int), .int .i64 N, .string z, .slice a n cp] 24 (0, 0)) := by
      rw [hW1, ((Below.refl _ _).alloc (Nat.le_refl _) _ : Below _ (w.alloc (.cells #[.int .u8 ((K : Nat) : Int), .int .i64 N, .string z, .slice a n cp] 24)) _).block _ (by simp)]
      exact heap_alloc_new w _
    have hr4 : W1.heap[w.heap.size + 1]? = some (.cells #[.int .u8 0, .int .i64 0, .string ⟨#[]⟩, .slice none 0 0] 24 (0, 0)) := by
      have h := heap_alloc_new (w.alloc (.cells #[.int .u8 ((K : Nat) : Int), .int .i64 N, .string z, .slice a n cp] 24)) (.cells #[.int .u8 0, .int .i64 0, .string ⟨#[]⟩, .slice none 0 0] 24)
      rw [hW1]
      simpa using h
    have hr8 : W2.heap[w.heap.size + 2]? = some (.cells #[.int .u8 ((K : Nat) : Int), .int .i64 N, .string z, .slice none 0 0] 24 (0, 0)) := by
      have h := heap_alloc_new W1 (.cells #[.int .u8 ((K : Nat) : Int), .int .i64 N, .string z, .slice none 0 0] 24)
      rw [← hW2, hs1] at h
      exact h
    have hr2 : W2.heap[w.heap.size]? = _ := (hb12.block _ (lt_rowV hr1)).trans hr1
    have HLO2 : Hid (LoopC w K N z (.slice none 0 0) [] W2) := ⟨hb2, by rw [hW2]; simp; omega, (hb12.block _ (lt_rowV hr4)).trans hr4, hr8, ValsF.nil _ _⟩
    obtain ⟨⟨a0, a1, a2, a3⟩, _⟩ := cells4 hr1
    obtain ⟨⟨c0, c1, c2, c3⟩, _⟩ := cells4 hr2
    have HS1 := hide hs1
    have HW1 := hide hW1
    have HW2 := hide hW2
    have HIH := hide ih
    have HM := hide hm
    have HD := hide hd
    have HPM := hide v.parts_mk
    have HDM := hide v.deep_mk
    have hd6 : d < 65536 := by omega
    clear hA hbox hK hN hz hn hb0 hb1 hb12 hb2 hr1 hr4 hr8 hr2 hW1 hW2 ih hm hd hkb hnb hsb hs1
    go_enter Tryd.func46, Tryd.ntmps46
    go_upto_region 1 with fail
    rw [← unhide HW1]
    clear HW1
    go_upto_region 2 with fail
    rw [← unhide HW2]
    rw [unhide HS1]
    clear HW2 a0 a1 a2 a3
    go_wp2_with fail
    refine (within_any a cp K n N z d hd6 _).mono ?_
    rintro e W3 ⟨rfl, hb3⟩
    have HLO3 := hide ((unhide HLO2).later hb3)
    clear hb3 c0 c1 c2 c3 HLO2
    go_wp2
    go_loopw [19] (fun k W => ∃ (j : Nat) (ra : Option Addr) (rc : Nat), j ≤ n ∧ k = .int .i64 ((j : Nat) : Int) ∧ LoopC w K N z (.slice ra j rc) (v.l.take j) W) (fun k _ => n - (intOf k).toNat)
    case atStart => exact ⟨0, none, 0, by omega, rfl, unhide HLO3⟩
    case round =>
      obtain ⟨j, ra, rc, hj, rfl, hLo⟩ := hrel
      have HLO := hide hLo
      have hb := hLo.below
      by_cases hlt : j < n
      · have hji : ((j : Nat) : Int) < ((n : Nat) : Int) := by omega
        have hjl : j < v.l.length := by have := unhide HN; omega
        obtain ⟨b, o, eK, el, ec, eN, ez, ea, rfl, _, x0, x1, x2, x3, he⟩ := (unhide HEL j hjl).out
        have hk : ∀ {p : Addr} {x : Value}, w.cell? p = some x → wr.cell? p = some x := fun hx => (hb.cell (World.block_lt_of_cell? _ _ hx)).trans hx
        have y0 := hk x0
        have y1 := hk x1
        have y2 := hk x2
        have y3 := hk x3
        have hmem : v.l[j] ∈ v.l := List.getElem_mem hjl
        have hpl := VD.parts_lt hmem
        have hdl := VD.deep_mem hmem
        obtain ⟨W4, hW4⟩ : ∃ W4, W4 = wr.alloc (.cells #[.int .u8 ((eK : Nat) : Int), .int .i64 eN, .string ez, .slice ea el ec] 24) := ⟨_, rfl⟩
        have hb4 : Below wr.heap.size wr W4 := by rw [hW4]; exact (Below.refl _ _).alloc (Nat.le_refl _) _
        have hr4 : W4.heap[wr.heap.size]? = some (.cells #[.int .u8 ((eK : Nat) : Int), .int .i64 eN, .string ez, .slice ea el ec] 24 (0, 0)) := by rw [hW4]; exact heap_alloc_new wr _
        obtain ⟨⟨i0, i1, i2, i3⟩, _⟩ := cells4 hr4
        have hLo4 := hLo.later hb4
        have hLo4d : LoopC w K N z (.slice ra j rc) (v.l.take j) W4.drew := hLo4.later ((Below.refl _ _).drew)
        obtain ⟨⟨k0, k1, k2, k3⟩, _⟩ := cells4 hLo4.c8
        have HLO4D := hide hLo4d
        obtain ⟨D, hD⟩ : ∃ D, D = d + 1 := ⟨_, rfl⟩
        have hDi : ((d : Nat) : Int) + 1 = ((D : Nat) : Int) := by omega
        have hwD : IntKind.i64.wrap ((D : Nat) : Int) = ((D : Nat) : Int) := by simp only [IntKind.wrap_i64]; omega
        have HC : Hid (Calls Tryd.prog 46 #[.agg #[.int .u8 ((eK : Nat) : Int), .int .i64 eN, .string ez, .slice ea el ec], .int .i64 ((D : Nat) : Int)] W4.drew (Copied W4.drew (v.l[j]))) := unhide HIH _ hmem B _ W4.drew D (he.later hLo4d.below) (by have := unhide HM; omega) (by have := unhide HD; have := unhide HDM; omega)
        have HTS : Hid (v.l.take (j + 1) = v.l.take j ++ [v.l[j]]) := List.take_succ_eq_append_getElem hjl
        have HTL : Hid ((v.l.take j).length = j) := by show _ = _; rw [List.length_take]; omega
        have HW4 := hide hW4
        generalize v.l[j] = x at *
        clear he hpl hdl hmem hb4 hr4 hW4 hk x0 x1 x2 x3 hD hb hLo hLo4 hLo4d
        go_upto_region 5 with fail
        rw [← unhide HW4]
        clear HW4 y0 y1 y2 y3
        go_region_law (first
          | (refine step_calls Tryd.func46 (by kernel_rfl) (by kernel_rfl) rfl _ _ rfl _ (by simp [Act.eval]) (unhide HC) ?_; rintro e W5 ⟨xK, xl, xc, xN, xz, xa, rfl, hAt, hb5⟩; refine ⟨_, rfl, ?_⟩; obtain ⟨ra', rc', W7, hrun, ⟨m3, f3⟩, hLo7⟩ := (unhide HLO4D).next hb5 hAt (by have := unhide HTL; omega) 22; rw [unhide HTL] at hrun hLo7; have HRUN := hide hrun; have HLO7 := hide hLo7; have l3 := (cells4 ((unhide HLO4D).later hb5).c8).1.2.2.2; have l4 : ∀ o, (W5.alloc o).cell? ⟨w.heap.size + 2, 3, none⟩ = some (.slice ra j rc) := fun o => (((Below.refl _ W5).alloc (Nat.le_refl _) o).cell (World.block_lt_of_cell? _ _ l3)).trans l3; clear hAt hb5 hLo7 hrun)
          | (refine step_append_runV rfl _ _ 22 rfl _ _ rfl rfl _ _ (unhide HRUN) ?_; clear HRUN))
        all_goals (
          clear m3 f3 l3 l4
          go_wp2_with fail
          exact ⟨⟨j + 1, ra', rc', by omega, by go_num, by rw [unhide HTS]; exact unhide HLO7⟩, by simp [intOf]; omega⟩)
      · have e : j = n := by omega
        have hji : ¬ ((j : Nat) : Int) < ((n : Nat) : Int) := by omega
        have HTK : Hid (v.l.take j = v.l) := List.take_of_length_le (by have := unhide HN; omega)
        rw [unhide HTK] at hLo HLO
        obtain ⟨⟨k0, k1, k2, k3⟩, -⟩ := cells4 hLo.c8
        obtain ⟨⟨m0, m1, m2, m3⟩, f0, f1, f2, f3⟩ := cells4 hLo.c4
        have hp8 : w.heap.size + 1 < w.heap.size + 3 := by omega
        have hVA := ((((hLo.vals.set (p := ⟨w.heap.size + 1, 0, none⟩) hp8 (.int .u8 ((K : Nat) : Int))).set (p := ⟨w.heap.size + 1, 1, none⟩) hp8 (.int .i64 N)).set (p := ⟨w.heap.size + 1, 2, none⟩) hp8 (.string z)).set (p := ⟨w.heap.size + 1, 3, none⟩) hp8 (.slice ra j rc)).at (unhide HKB) (unhide HNB) (unhide HSB)
        have hve : VD.mk v.k v.n v.s v.l = v := by cases v; rfl
        rw [hve, ← unhide HKE, ← unhide HNE, ← unhide HZE] at hVA
        have HVA := hide (hVA.wider (B' := fun b => w.heap.size ≤ b ∧ NFz _ b) (fun k hk => ⟨by have := hk.1; omega, hk.2⟩))
        have HBB := hide (set4_below (g := w.heap.size + 1) hLo.below (by omega) (.int .u8 ((K : Nat) : Int)) (.int .i64 N) (.string z) (.slice ra j rc))
        clear e hLo hb hp8 hVA hve
        go_wp2
        refine bodyPost_ret (results_cv1 rfl _ _ _ _ _ _ _ rfl (set4_heap (unhide HLO).c4 _ _ _ _) Tryd.underlying24 rfl (by kernel_rfl)) rfl ?_
        exact ⟨K, _, _, N, z, _, rfl, unhide HVA, unhide HBB⟩

set_option maxRecDepth 100000 in
set_option maxHeartbeats 2000000 in
theorem copy_any (v : VD) (B : Nat → Prop) (u : Value) (w : World) (hA : v.At B w u) (hm : v.parts ≤ 1000000) (hd : v.deep ≤ 1000) : Calls Tryd.prog 25 #[u] w (Copied w v) := by
  have hA0 := hA
  obtain ⟨a, cp, rfl, hlc, hbox⟩ := hA.box
  obtain ⟨n, hn⟩ : ∃ n, n = v.l.length := ⟨_, rfl⟩
  obtain ⟨K, hK⟩ : ∃ K, K = v.k := ⟨_, rfl⟩
  obtain ⟨N, hN⟩ : ∃ N, N = v.n := ⟨_, rfl⟩
  obtain ⟨z, hz⟩ : ∃ z : ByteArray, z = ⟨v.s.toArray⟩ := ⟨_, rfl⟩
  rw [← hn, ← hK, ← hN, ← hz] at hA0 ⊢
  obtain ⟨W1, hW1⟩ : ∃ W1, W1 = ((w.alloc (.cells #[.int .u8 ((K : Nat) : Int), .int .i64 N, .string z, .slice a n cp] 24)).alloc (.cells #[.int .u8 0, .int .i64 0, .string ⟨#[]⟩, .slice none 0 0] 24)) := ⟨_, rfl⟩
  have hb0 : Below w.heap.size w (w.alloc (.cells #[.int .u8 ((K : Nat) : Int), .int .i64 N, .string z, .slice a n cp] 24)) := (Below.refl _ w).alloc (Nat.le_refl _) _
  have hb1 : Below w.heap.size w W1 := by rw [hW1]; exact hb0.alloc hb0.size _
  have hr1 : W1.heap[w.heap.size]? = some (.cells #[.int .u8 ((K : Nat) : Int), .int .i64 N, .string z, .slice a n cp] 24 (0, 0)) := by
    rw [hW1, ((Below.refl _ _).alloc (Nat.le_refl _) _ : Below _ (w.alloc (.cells #[.int .u8 ((K : Nat) : Int), .int .i64 N, .string z, .slice a n cp] 24)) _).block _ (by simp)]
    exact heap_alloc_new w _
  have hr4 : W1.heap[w.heap.size + 1]? = some (.cells #[.int .u8 0, .int .i64 0, .string ⟨#[]⟩, .slice none 0 0] 24 (0, 0)) := by
    have h := heap_alloc_new (w.alloc (.cells #[.int .u8 ((K : Nat) : Int), .int .i64 N, .string z, .slice a n cp] 24)) (.cells #[.int .u8 0, .int .i64 0, .string ⟨#[]⟩, .slice none 0 0] 24)
    rw [hW1]
    simpa using h
  have hs1 : w.heap.size + 2 ≤ W1.heap.size := by rw [hW1]; simp
  obtain ⟨⟨c0, c1, c2, c3⟩, -⟩ := cells4 hr1
  have HC : Hid (Calls Tryd.prog 46 #[.agg #[.int .u8 ((K : Nat) : Int), .int .i64 N, .string z, .slice a n cp], .int .i64 1] W1 (Copied W1 v)) := copyAt_any v B _ W1 1 (hA0.later hb1) hm (by omega)
  have HW1 := hide hW1
  have HB1 := hide hb1
  have HR4 := hide hr4
  have HS1 := hide hs1
  clear hA hA0 hbox hn hK hN hz hW1 hb0 hb1 hr1 hr4 hm hd hs1
  go_enter Tryd.func25, Tryd.ntmps25
  go_upto_region 1 with fail
  rw [← unhide HW1]
  clear HW1
  go_wp2_with fail
  refine (unhide HC).mono ?_
  rintro e W5 ⟨xK, xl, xc, xN, xz, xa, rfl, hAt, hb5⟩
  have hr5 := (hb5.block _ (lt_rowV (unhide HR4))).trans (unhide HR4)
  obtain ⟨⟨m0, m1, m2, m3⟩, f0, f1, f2, f3⟩ := cells4 hr5
  have HR5 := hide hr5
  have hb6 := set4_below (g := w.heap.size + 1) ((unhide HB1).trans (hb5.mono (unhide HB1).size)) (by omega) (.int .u8 ((xK : Nat) : Int)) (.int .i64 xN) (.string xz) (.slice xa xl xc)
  have hkk : ∀ k, W1.heap.size ≤ k → ((((W5.setCell ⟨w.heap.size + 1, 0, none⟩ (.int .u8 ((xK : Nat) : Int))).setCell ⟨w.heap.size + 1, 1, none⟩ (.int .i64 xN)).setCell ⟨w.heap.size + 1, 2, none⟩ (.string xz)).setCell ⟨w.heap.size + 1, 3, none⟩ (.slice xa xl xc)).heap[k]? = W5.heap[k]? := fun k hk => by
    have hne : w.heap.size + 1 ≠ k := by have := unhide HS1; omega
    have hne : ∀ i, k ≠ (⟨w.heap.size + 1, i, none⟩ : Addr).block := fun i => by show k ≠ w.heap.size + 1; omega
    rw [Below.heap_setCell _ _ _ _ (hne 3), Below.heap_setCell _ _ _ _ (hne 2), Below.heap_setCell _ _ _ _ (hne 1), Below.heap_setCell _ _ _ _ (hne 0)]
  have HVA := hide (hAt.kept (B' := fun k => w.heap.size ≤ k ∧ NFz ((((W5.setCell ⟨w.heap.size + 1, 0, none⟩ (.int .u8 ((xK : Nat) : Int))).setCell ⟨w.heap.size + 1, 1, none⟩ (.int .i64 xN)).setCell ⟨w.heap.size + 1, 2, none⟩ (.string xz)).setCell ⟨w.heap.size + 1, 3, none⟩ (.slice xa xl xc)) k) (fun k hk _ => hkk k hk.1) (fun k hk _ => ⟨Nat.le_trans (unhide HB1).size hk.1, hk.2.keep (hkk k hk.1)⟩))
  have HB6 := hide hb6
  clear hAt hb5 hr5 c0 c1 c2 c3 hb6 hkk
  go_wp2_with fail
  refine bodyPost_ret (results_cv1 rfl _ _ _ _ _ _ _ rfl (set4_heap (unhide HR5) _ _ _ _) Tryd.underlying24 rfl (by kernel_rfl)) rfl ?_
  exact ⟨xK, _, _, xN, xz, _, rfl, unhide HVA, unhide HB6⟩
end Go.Proofs.YtobgmbfoofkdeaaDoor

namespace Go.Proofs.YtobgmbfoofkdeaaDoor
open Go.RowKit

set_option maxRecDepth 100000 in
set_option maxHeartbeats 4000000 in
theorem partsAt_any (v : VD) : ∀ (B : Nat → Prop) (u : Value) (w : World) (d : Nat), v.At B w u → v.parts ≤ 1000000 → d + v.deep ≤ 60000 →
    Calls Tryd.prog 35 #[u, .int .i64 ((d : Nat) : Int)] w fun e w' => e = .returned (.int .i64 ((v.parts : Nat) : Int)) ∧ Below w.heap.size w w' := by
  induction v using VD.induct with
  | h v ih =>
    intro B u w d hA hm hd
    have HA0 := hide hA
    obtain ⟨a, cp, rfl, hlc, hbox⟩ := hA.box
    have HEL := hide hA.elems
    obtain ⟨n, hn⟩ : ∃ n, n = v.l.length := ⟨_, rfl⟩
    obtain ⟨K, hK⟩ : ∃ K, K = v.k := ⟨_, rfl⟩
    obtain ⟨N, hN⟩ : ∃ N, N = v.n := ⟨_, rfl⟩
    obtain ⟨z, hz⟩ : ∃ z : ByteArray, z = ⟨v.s.toArray⟩ := ⟨_, rfl⟩
    rw [← hn, ← hK, ← hN, ← hz] at HA0 ⊢
    rw [← hn] at hlc
    have HN := hide hn
    have hn6 : n ≤ 1000000 := by have h1 := VD.partsL_length v.l; have h2 := v.parts_mk; omega
    obtain ⟨W1, hW1⟩ : ∃ W1, W1 = w.alloc (.cells #[.int .u8 ((K : Nat) : Int), .int .i64 N, .string z, .slice a n cp] 24) := ⟨_, rfl⟩
    have hb1 : Below w.heap.size w W1 := by rw [hW1]; exact (Below.refl _ w).alloc (Nat.le_refl _) _
    have hr1 : W1.heap[w.heap.size]? = some (.cells #[.int .u8 ((K : Nat) : Int), .int .i64 N, .string z, .slice a n cp] 24 (0, 0)) := by rw [hW1]; exact heap_alloc_new w _
    obtain ⟨⟨c0, c1, c2, c3⟩, _⟩ := cells4 hr1
    have HW1 := hide hW1
    have HB1 := hide hb1
    have HIH := hide ih
    have HM := hide hm
    have HD := hide hd
    have HPM := hide v.parts_mk
    have HDM := hide v.deep_mk
    have hd6 : d < 65536 := by omega
    clear hA hbox hK hN hz hn hb1 hr1 hW1 ih hm hd
    go_enter Tryd.func35, Tryd.ntmps35
    go_upto_region 1 with fail
    rw [← unhide HW1]
    clear HW1
    go_wp2_with fail
    refine (within_any a cp K n N z d hd6 _).mono ?_
    rintro e W2 ⟨rfl, hb2⟩
    have HB2 := hide ((unhide HB1).trans (hb2.mono (unhide HB1).size))
    clear hb2 c0 c1 c2 c3
    go_wp2
    go_loopw [5, 12] (fun s k W => ∃ j : Nat, j ≤ n ∧ k = .int .i64 ((j : Nat) : Int) ∧ s = .int .i64 ((VD.partsL (v.l.take j) + 1 : Nat) : Int) ∧ Below w.heap.size w W) (fun _ k _ => n - (intOf k).toNat)
    case atStart => exact ⟨0, by omega, rfl, rfl, unhide HB2⟩
    case round =>
      obtain ⟨j, hj, rfl, rfl, hb⟩ := hrel
      have HB := hide hb
      by_cases hlt : j < n
      · have hji : ((j : Nat) : Int) < ((n : Nat) : Int) := by omega
        have hjl : j < v.l.length := by have := unhide HN; omega
        obtain ⟨b, o, eK, el, ec, eN, ez, ea, rfl, _, x0, x1, x2, x3, he⟩ := (unhide HEL j hjl).out
        have hk : ∀ {p : Addr} {x : Value}, w.cell? p = some x → wr.cell? p = some x := fun hx => (hb.cell (World.block_lt_of_cell? _ _ hx)).trans hx
        have y0 := hk x0
        have y1 := hk x1
        have y2 := hk x2
        have y3 := hk x3
        have hmem : v.l[j] ∈ v.l := List.getElem_mem hjl
        have hpl := VD.parts_lt hmem
        have hdl := VD.deep_mem hmem
        obtain ⟨W4, hW4⟩ : ∃ W4, W4 = wr.alloc (.cells #[.int .u8 ((eK : Nat) : Int), .int .i64 eN, .string ez, .slice ea el ec] 24) := ⟨_, rfl⟩
        have hb4 : Below wr.heap.size wr W4 := by rw [hW4]; exact (Below.refl _ _).alloc (Nat.le_refl _) _
        have hr4 : W4.heap[wr.heap.size]? = some (.cells #[.int .u8 ((eK : Nat) : Int), .int .i64 eN, .string ez, .slice ea el ec] 24 (0, 0)) := by rw [hW4]; exact heap_alloc_new wr _
        obtain ⟨⟨i0, i1, i2, i3⟩, _⟩ := cells4 hr4
        have HB4 := hide (hb.trans (hb4.mono hb.size))
        obtain ⟨D, hD⟩ : ∃ D, D = d + 1 := ⟨_, rfl⟩
        have hDi : ((d : Nat) : Int) + 1 = ((D : Nat) : Int) := by omega
        have HT : Hid (VD.partsL (v.l.take (j + 1)) = VD.partsL (v.l.take j) + (v.l[j]).parts) := by
          show _ = _
          rw [List.take_succ_eq_append_getElem hjl, VD.partsL_append]
          simp [VD.partsL]
        have hle := VD.partsL_take v.l (j + 1)
        have HC : Hid (Calls Tryd.prog 35 #[.agg #[.int .u8 ((eK : Nat) : Int), .int .i64 eN, .string ez, .slice ea el ec], .int .i64 ((D : Nat) : Int)] W4 fun e w' => e = .returned (.int .i64 (((v.l[j]).parts : Nat) : Int)) ∧ Below W4.heap.size W4 w') := unhide HIH _ hmem B _ W4 D (he.later (unhide HB4)) (by have := unhide HM; omega) (by have := unhide HD; have := unhide HDM; omega)
        obtain ⟨S, hS⟩ : ∃ S, S = VD.partsL (v.l.take j) + 1 := ⟨_, rfl⟩
        have HSD := hide hS
        obtain ⟨p, hp⟩ : ∃ p, p = (v.l[j]).parts := ⟨_, rfl⟩
        have hb9 : ((S : Nat) : Int) + ((p : Nat) : Int) ≤ 1000000 := by have := unhide HM; have := unhide HPM; have := unhide HT; omega
        rw [← hp] at HC HT
        rw [← hS]
        have HW4 := hide hW4
        clear he hle hpl hdl hS hp hmem hb4 hr4 hW4 hk x0 x1 x2 x3 hD hb
        go_upto_region 5 with fail
        rw [← unhide HW4]
        clear HW4 y0 y1 y2 y3
        go_wp2_with fail
        refine (unhide HC).mono ?_
        rintro e w2 ⟨rfl, hb2⟩
        have HB5 := hide ((unhide HB4).trans (hb2.mono (unhide HB4).size))
        clear hb2 i0 i1 i2 i3
        go_wp2_with fail
        exact ⟨⟨j + 1, by omega, by go_num, by rw [unhide HT]; congr 1; have := unhide HSD; omega, unhide HB5⟩, by simp [intOf]; omega⟩
      · have e : j = n := by omega
        have hji : ¬ ((j : Nat) : Int) < ((n : Nat) : Int) := by omega
        have HTT : Hid (VD.partsL (v.l.take j) + 1 = v.parts) := by show _ = _; rw [List.take_of_length_le (by have := unhide HN; omega), unhide HPM]
        rw [unhide HTT]
        clear e hb
        go_wp2
        go_ret
        exact ⟨rfl, unhide HB⟩

set_option maxRecDepth 100000 in
set_option maxHeartbeats 2000000 in
theorem parts_any (v : VD) (B : Nat → Prop) (u : Value) (w : World) (hA : v.At B w u) (hm : v.parts ≤ 1000000) (hd : v.deep ≤ 1000) : Calls Tryd.prog 13 #[u] w fun e w' => e = .returned (.int .i64 ((v.parts : Nat) : Int)) ∧ Below w.heap.size w w' := by
  have hA0 := hA
  obtain ⟨a, cp, rfl, hlc, hbox⟩ := hA.box
  obtain ⟨n, hn⟩ : ∃ n, n = v.l.length := ⟨_, rfl⟩
  obtain ⟨K, hK⟩ : ∃ K, K = v.k := ⟨_, rfl⟩
  obtain ⟨N, hN⟩ : ∃ N, N = v.n := ⟨_, rfl⟩
  obtain ⟨z, hz⟩ : ∃ z : ByteArray, z = ⟨v.s.toArray⟩ := ⟨_, rfl⟩
  rw [← hn, ← hK, ← hN, ← hz] at hA0 ⊢
  obtain ⟨W1, hW1⟩ : ∃ W1, W1 = w.alloc (.cells #[.int .u8 ((K : Nat) : Int), .int .i64 N, .string z, .slice a n cp] 24) := ⟨_, rfl⟩
  have hb1 : Below w.heap.size w W1 := by rw [hW1]; exact (Below.refl _ w).alloc (Nat.le_refl _) _
  have hr1 : W1.heap[w.heap.size]? = some (.cells #[.int .u8 ((K : Nat) : Int), .int .i64 N, .string z, .slice a n cp] 24 (0, 0)) := by rw [hW1]; exact heap_alloc_new w _
  obtain ⟨⟨c0, c1, c2, c3⟩, _⟩ := cells4 hr1
  have HC : Hid (Calls Tryd.prog 35 #[.agg #[.int .u8 ((K : Nat) : Int), .int .i64 N, .string z, .slice a n cp], .int .i64 1] W1 fun e w' => e = .returned (.int .i64 ((v.parts : Nat) : Int)) ∧ Below W1.heap.size W1 w') := partsAt_any v B _ W1 1 (hA0.later hb1) hm (by omega)
  have HW1 := hide hW1
  have HB1 := hide hb1
  have HM := hide hm
  obtain ⟨p, hp⟩ : ∃ p, p = v.parts := ⟨_, rfl⟩
  rw [← hp] at HC ⊢
  clear hA hA0 hbox hn hK hN hz hW1 hb1 hr1 hm hd hp
  go_enter Tryd.func13, Tryd.ntmps13
  go_upto_region 1 with fail
  rw [← unhide HW1]
  clear HW1
  go_wp2_with fail
  refine (unhide HC).mono ?_
  rintro e W5 ⟨rfl, hb5⟩
  have HB5 := hide ((unhide HB1).trans (hb5.mono (unhide HB1).size))
  clear hb5 c0 c1 c2 c3
  go_wp2_with fail
  go_ret
  exact ⟨rfl, unhide HB5⟩
end Go.Proofs.YtobgmbfoofkdeaaDoor

namespace Go.Proofs.YtobgmbfoofkdeaaDoor
open Go.ChangeShapes Go.WideShapes Go.ChangeAt Go.RowKit

section
variable {H : Type} {enc : TypeId × Value → H} {P : Program} {w : World} {base : Nat} {spare : Nat → Bool} {held : Bool}

/-- An array of numbers by value. -/
theorem open_numbers {n : Nat} {t e : TypeId} {k : IntKind} {r : Reach} {b0 : Nat} {v : Value} {d : DataW H} {ps : List MemPlace} (ht : P.underlying t = some (.array n e)) (he : P.underlying e = some (.int k)) (hce : P.cellsOf e = 1) (hC : P.cellsOf t = n)
    (hv : Value.okWide P w r b0 t v) (h : DataW.Trod enc P w base spare held t v d ps) : ∃ ks : List Int, ks.length = n ∧ v = .agg (ks.map (Value.int k)).toArray ∧ ∀ x ∈ ks, (Lit.int k x).wf = true := by
  simp only [Value.okWide, ht] at hv
  obtain ⟨cs, rfl, hsz, _⟩ := hv
  obtain ⟨fuel, hf⟩ := h
  obtain ⟨xs, m, _, _, _, hxl, hxs⟩ := DataW.trod_array ht hf
  have hcs : ∀ i, i < n → ∃ x, cs[i]? = some (.int k x) ∧ (Lit.int k x).wf = true := fun i hi => by
    have h1 := hxs i hi
    rw [hce, Nat.mul_one] at h1
    have hlt : i < cs.size := by omega
    have hx : xs[i]? = some xs[i] := List.getElem?_eq_getElem (by omega)
    have hd : (cs.toList.drop i).take 1 = [cs[i]] := by
      rw [List.drop_eq_getElem_cons (by simpa using hlt)]
      simp
    have h2 : DataW.trod enc P w base spare held m e [cs[i]] = some xs[i] := by
      rw [← hd, ← hx]; exact h1
    obtain ⟨x, e1, _, e2⟩ := DataW.trod_int he h2
    simp at e1
    exact ⟨x, by rw [Array.getElem?_eq_getElem hlt, e1], e2⟩
  refine ⟨(List.range n).map fun i => intOf (cs.getD i undef), by simp, ?_, fun x hx => ?_⟩
  · congr 1
    apply Array.ext_getElem?
    intro i
    by_cases hi : i < n
    · obtain ⟨x, h1, _⟩ := hcs i hi
      rw [h1]
      simp [hi, intOf, Array.getD_eq_getD_getElem?, h1]
    · rw [Array.getElem?_eq_none (by omega)]
      simp [hi]
  · obtain ⟨i, hi, rfl⟩ := List.mem_map.1 hx
    obtain ⟨x, h1, h2⟩ := hcs i (by simpa using hi)
    simpa [intOf, Array.getD_eq_getD_getElem?, h1] using h2

/-- Numbers that are bytes. -/
theorem bytes_numbers {ks : List Int} (h : ∀ x ∈ ks, (Lit.int .u8 x).wf = true) : ∃ bs : List UInt8, bs.length = ks.length ∧ ks.map (Value.int .u8) = bs.map bv := by
  refine ⟨ks.map fun x => UInt8.ofNat x.toNat, by simp, ?_⟩
  rw [List.map_map]
  refine List.map_congr_left fun x hx => ?_
  have hb : 0 ≤ x ∧ x ≤ 255 := by simpa [Lit.wf, IntKind.min, IntKind.max, IntKind.signed, IntKind.bits] using h x hx
  show Value.int .u8 x = bv (UInt8.ofNat x.toNat)
  unfold bv
  rw [UInt8.toNat_ofNat']
  congr 2
  omega

theorem four_of {l : List Int} (h : l.length = 4) : ∃ a b c d, l = [a, b, c, d] := by
  match l, h with
  | [a, b, c, d], _ => exact ⟨a, b, c, d, rfl⟩

theorem four_bytes {l : List UInt8} (h : l.length = 4) : (l.map bv).toArray = #[.int .u8 ((l.getD 0 0).toNat : Nat), .int .u8 ((l.getD 1 0).toNat : Nat), .int .u8 ((l.getD 2 0).toNat : Nat), .int .u8 ((l.getD 3 0).toNat : Nat)] := by
  match l, h with
  | [a, b, c, d], _ => rfl

/-- A slice of bytes that came in. -/
theorem open_bytes {t e : TypeId} {r : Reach} {b0 : Nat} {v : Value} {d : DataW H} {ps : List MemPlace} (ht : P.underlying t = some (.slice e)) (he : P.underlying e = some (.int .u8)) (hce : P.cellsOf e = 1)
    (hv : Value.okWide P w r b0 t v) (h : DataW.Trod enc P w base spare held t v d ps) : ∃ a n c, v = .slice a n c ∧ n ≤ c ∧ ∃ bs : List UInt8, bs.length = n ∧ Bytes w v bs := by
  obtain ⟨a, n, c, rfl⟩ := okWide_slice ht hv
  obtain ⟨fuel, hf⟩ := h
  rcases open_ints ht he hce hf with ⟨hcs, _⟩ | ⟨x, l, c', zs, hcs, _, hl, hm, hz, _, hcell, hwz⟩
  · simp [Value.cells] at hcs
    obtain ⟨rfl, rfl, rfl⟩ := hcs
    exact ⟨none, 0, 0, rfl, Nat.le_refl _, [], rfl, .inl ⟨rfl, rfl⟩⟩
  · simp [Value.cells] at hcs
    obtain ⟨rfl, rfl, rfl⟩ := hcs
    have hzl : n ≤ zs.length := by rw [hz]; split <;> omega
    refine ⟨_, n, c, rfl, hl, (zs.take n).map (fun x => UInt8.ofNat x.toNat), by simp; omega, .inr ⟨x, c, by simp; omega, by simp; omega, hm, fun j u hu => ?_⟩⟩
    have hj : j < n := by have := (List.getElem?_eq_some_iff.1 hu).1; simp at this; omega
    have hw := hwz (zs.getD j 0) (by rw [List.getD_eq_getElem?_getD, List.getElem?_eq_getElem (by omega)]; simp)
    have hb : 0 ≤ zs.getD j 0 ∧ zs.getD j 0 ≤ 255 := by simpa [Lit.wf, IntKind.min, IntKind.max, IntKind.signed, IntKind.bits] using hw
    rw [hcell j (by omega)]
    rw [List.map_map, List.getElem?_map, List.getElem?_take, if_pos hj, List.getElem?_eq_getElem (by omega)] at hu
    simp only [Option.map_some, Function.comp_apply, Option.some.injEq] at hu
    rw [← hu, List.getD_eq_getElem?_getD, List.getElem?_eq_getElem (by omega)]
    rw [List.getD_eq_getElem?_getD, List.getElem?_eq_getElem (by omega)] at hb
    simp only [Option.getD_some] at hb ⊢
    unfold bv
    rw [UInt8.toNat_ofNat']
    congr 2
    omega

/-- A slice of numbers that came in, by index. -/
theorem open_row {t e : TypeId} {k : IntKind} {r : Reach} {b0 : Nat} {v : Value} {d : DataW H} {ps : List MemPlace} (ht : P.underlying t = some (.slice e)) (he : P.underlying e = some (.int k)) (hce : P.cellsOf e = 1)
    (hv : Value.okWide P w r b0 t v) (h : DataW.Trod enc P w base spare held t v d ps) : ∃ a n c, v = .slice a n c ∧ n ≤ c ∧ ∃ z : Nat → Int, (∀ i, (Lit.int k (z i)).wf = true) ∧ (n = 0 ∨ ∃ b o, a = some ⟨b, o, none⟩ ∧ ∀ i, i < n → w.cell? ⟨b, o + i, none⟩ = some (.int k (z i))) := by
  have wf0 : (Lit.int k 0).wf = true := by cases k <;> decide
  obtain ⟨a, n, c, rfl⟩ := okWide_slice ht hv
  obtain ⟨fuel, hf⟩ := h
  rcases open_ints ht he hce hf with ⟨hcs, _⟩ | ⟨x, l, c', zs, hcs, _, hl, hm, hz, _, hcell, hwz⟩
  · simp [Value.cells] at hcs
    obtain ⟨rfl, rfl, rfl⟩ := hcs
    exact ⟨none, 0, 0, rfl, Nat.le_refl _, fun _ => 0, fun _ => wf0, .inl rfl⟩
  · simp [Value.cells] at hcs
    obtain ⟨rfl, rfl, rfl⟩ := hcs
    have hzl : n ≤ zs.length := by rw [hz]; split <;> omega
    refine ⟨_, n, c, rfl, hl, fun i => zs.getD i 0, fun i => ?_, ?_⟩
    · by_cases hi : i < zs.length
      · exact hwz _ (by show zs.getD i 0 ∈ zs; rw [List.getD_eq_getElem?_getD, List.getElem?_eq_getElem hi]; simp)
      · show (Lit.int k (zs.getD i 0)).wf = true
        rw [List.getD_eq_getElem?_getD, List.getElem?_eq_none (by omega)]; exact wf0
    · by_cases hn : n = 0
      · exact .inl hn
      · obtain ⟨b, o, spot⟩ := x
        have hc := hcell 0 (by omega)
        have hspot : spot = none := by simpa [Addr.add] using World.cell?_spot hc
        subst hspot
        exact .inr ⟨b, o, rfl, fun i hi => by have := hcell i (by omega); rwa [Addr.add_mid] at this⟩
end
end Go.Proofs.YtobgmbfoofkdeaaDoor

namespace Go.Proofs.YtobgmbfoofkdeaaDoor
open Go.ChangeShapes Go.WideShapes Go.ChangeAt Go.RowKit

section
variable {H : Type} {enc : TypeId × Value → H} {w : World} {base : Nat} {spare : Nat → Bool} {held : Bool}

theorem four_ofV {l : List Value} (h : l.length = 4) : ∃ a b c d, l = [a, b, c, d] := by
  match l, h with
  | [a, b, c, d], _ => exact ⟨a, b, c, d, rfl⟩
theorem at_someV {α : Type} {l : List α} {n i : Nat} (h : l.length = n) (hi : i < n) : ∃ y, l[i]? = some y := ⟨l[i], List.getElem?_eq_getElem (by omega)⟩

/-- The values of a row that came in: each of them by what is known of its cells. -/
theorem elems_of {n : Nat} {P : Nat → VD → Prop} (h : ∀ i, i < n → ∃ v : VD, P i v) : ∃ l : List VD, l.length = n ∧ ∀ i (hi : i < l.length), P i (l[i]'hi) := by
  refine ⟨(List.range n).map fun i => if hi : i < n then Classical.choose (h i hi) else .mk 0 0 [] [], by simp, fun i hi => ?_⟩
  have hi' : i < n := by simpa using hi
  simp only [List.getElem_map, List.getElem_range, dif_pos hi']
  exact Classical.choose_spec (h i hi')

/-- A value within what came in: what its cells are. -/
theorem trod_value : ∀ (N fuel : Nat) {cs : List Value} {x : DataW H × List MemPlace}, fuel ≤ N → DataW.trod enc Tryd.prog w base spare held fuel 24 cs = some x →
    ∃ (v : VD) (e0 e1 e2 e3 : Value), cs = [e0, e1, e2, e3] ∧ v.At (fun _ => True) w (.agg #[e0, e1, e2, e3]) := by
  intro N
  induction N with
  | zero =>
    intro fuel cs x hN h
    obtain ⟨xs, m, hm, _⟩ := DataW.trod_struct Tryd.underlying24 h
    omega
  | succ N ih =>
    intro fuel cs x hN h
    obtain ⟨xs, m, hfuel, hx, hl, hlen, hf⟩ := DataW.trod_struct Tryd.underlying24 h
    have hl4 : cs.length = 4 := hl.trans (by kernel_rfl)
    obtain ⟨v0, v1, v2, v3, rfl⟩ := four_ofV hl4
    have c5 : Tryd.prog.cellsOf 5 = 1 := by kernel_rfl
    have c2 : Tryd.prog.cellsOf 2 = 1 := by kernel_rfl
    have c9 : Tryd.prog.cellsOf 9 = 1 := by kernel_rfl
    have c22 : Tryd.prog.cellsOf 22 = 1 := by kernel_rfl
    have c24 : Tryd.prog.cellsOf 24 = 4 := by kernel_rfl
    have hlen' : xs.length = 4 := hlen
    obtain ⟨y0, e0⟩ := at_someV hlen' (i := 0) (by omega)
    obtain ⟨y1, e1⟩ := at_someV hlen' (i := 1) (by omega)
    obtain ⟨y2, e2⟩ := at_someV hlen' (i := 2) (by omega)
    obtain ⟨y3, e3⟩ := at_someV hlen' (i := 3) (by omega)
    have f0 : DataW.trod enc Tryd.prog w base spare held m 5 (([v0, v1, v2, v3].drop 0).take (Tryd.prog.cellsOf 5)) = some y0 := (hf 0 _ rfl).trans e0
    rw [c5] at f0
    replace f0 : DataW.trod enc Tryd.prog w base spare held m 5 [v0] = some y0 := f0
    have f1 : DataW.trod enc Tryd.prog w base spare held m 2 (([v0, v1, v2, v3].drop 1).take (Tryd.prog.cellsOf 2)) = some y1 := (hf 1 _ rfl).trans e1
    rw [c2] at f1
    replace f1 : DataW.trod enc Tryd.prog w base spare held m 2 [v1] = some y1 := f1
    have f2 : DataW.trod enc Tryd.prog w base spare held m 9 (([v0, v1, v2, v3].drop 2).take (Tryd.prog.cellsOf 9)) = some y2 := (hf 2 _ rfl).trans e2
    rw [c9] at f2
    replace f2 : DataW.trod enc Tryd.prog w base spare held m 9 [v2] = some y2 := f2
    have f3 : DataW.trod enc Tryd.prog w base spare held m 22 (([v0, v1, v2, v3].drop 3).take (Tryd.prog.cellsOf 22)) = some y3 := (hf 3 _ rfl).trans e3
    rw [c22] at f3
    replace f3 : DataW.trod enc Tryd.prog w base spare held m 22 [v3] = some y3 := f3
    obtain ⟨k, g0, _, w0⟩ := DataW.trod_int Tryd.underlying5 f0
    obtain ⟨n, g1, _, w1⟩ := DataW.trod_int Tryd.underlying2 f1
    obtain ⟨z, g2, _, hz⟩ := DataW.trod_string Tryd.underlying9 f2
    simp at g0 g1 g2
    subst g0 g1 g2
    have hk : 0 ≤ k ∧ k ≤ 255 := by simpa [Lit.wf, IntKind.min, IntKind.max, IntKind.signed, IntKind.bits] using w0
    have hn : -9223372036854775808 ≤ n ∧ n ≤ 9223372036854775807 := by simpa [Lit.wf, IntKind.min, IntKind.max, IntKind.signed, IntKind.bits] using w1
    have hzz : (⟨z.data.toList.toArray⟩ : ByteArray) = z := by cases z; simp
    have hzl : z.data.toList.length ≤ maxLen := by rw [Array.length_toList]; exact hz
    have hkk : ((k.toNat : Nat) : Int) = k := by omega
    rcases DataW.trod_slice Tryd.underlying22 f3 with ⟨hcs, _⟩ | ⟨a, l, c', elems, rest, m', hm', hcs, _, hb, hlc, hcm, hel, heach, _⟩
    · simp at hcs
      subst hcs
      refine ⟨.mk k.toNat n z.data.toList [], _, _, _, _, rfl, ?_⟩
      rw [VD.at_iff]
      exact ⟨none, 0, by simp only [VD.k, VD.n, VD.s, VD.l, hkk, hzz]; rfl, by show k.toNat < _; omega, hn, hzl, Nat.le_refl _, Nat.zero_le _, fun j hj => absurd hj (Nat.not_lt_zero j)⟩
    · simp at hcs
      subst hcs
      have first : ∀ i, i < l → ∃ (v : VD) (u0 u1 u2 u3 : Value), w.cell? ((a.add (i * 4)).add 0) = some u0 ∧ w.cell? ((a.add (i * 4)).add 1) = some u1 ∧ w.cell? ((a.add (i * 4)).add 2) = some u2 ∧ w.cell? ((a.add (i * 4)).add 3) = some u3 ∧ v.At (fun _ => True) w (.agg #[u0, u1, u2, u3]) := fun i hi => by
        have h1 := heach i hi
        rw [c24, List.getElem?_eq_getElem (show i < elems.length by omega), Option.bind_eq_some_iff] at h1
        obtain ⟨cs, h2, h3⟩ := h1
        unfold World.cells? at h2
        split at h2
        · obtain ⟨v, u0, u1, u2, u3, rfl, hv⟩ := ih m' (by omega) h3
          exact ⟨v, u0, u1, u2, u3, mapM_some_get h2 0 0 (by simp), mapM_some_get h2 1 1 (by simp), mapM_some_get h2 2 2 (by simp), mapM_some_get h2 3 3 (by simp), hv⟩
        · cases h2
      have each : ∀ i, i < l → ∃ v : VD, v.Elem (fun _ => True) w (some a) i := fun i hi => by
        obtain ⟨b, o, spot⟩ := a
        obtain ⟨_, _, _, _, _, g0, _⟩ := first 0 (by omega)
        have hspot : spot = none := by simpa [Addr.add] using World.cell?_spot g0
        subst hspot
        obtain ⟨v, u0, u1, u2, u3, g0, g1, g2, g3, hv⟩ := first i hi
        rw [Addr.add_mid, Addr.add_mid] at g0 g1 g2 g3
        exact ⟨v, b, o, u0, u1, u2, u3, rfl, trivial, g0, g1, g2, g3, hv⟩
      obtain ⟨q, hq, hE⟩ := elems_of each
      refine ⟨.mk k.toNat n z.data.toList q, _, _, _, _, rfl, ?_⟩
      rw [VD.at_iff]
      refine ⟨some a, c', ?_, by show k.toNat < _; omega, hn, hzl, by simp only [VD.l]; omega, hcm, hE⟩
      simp only [VD.k, VD.n, VD.s, VD.l, hkk, hzz, hq]

set_option maxRecDepth 100000 in
/-- A value that came in. -/
theorem open_value {r0 : Reach} {b0 : Nat} {v : Value} {d : DataW H} {ps : List MemPlace} (hv : Value.okWide Tryd.prog w r0 b0 24 v) (h : DataW.Trod enc Tryd.prog w base spare held 24 v d ps) :
    ∃ x : VD, x.At (fun _ => True) w v := by
  have hu : Tryd.prog.underlying 24 = _ := Tryd.underlying24
  simp only [Value.okWide, hu] at hv
  obtain ⟨fuel, hf⟩ := h
  obtain ⟨x, e0, e1, e2, e3, h1, h2⟩ := trod_value fuel fuel (Nat.le_refl _) hf
  obtain ⟨cs, rfl, hrest⟩ := hv
  refine ⟨x, ?_⟩
  have h3 : cs.toList = [e0, e1, e2, e3] := h1
  have h4 : cs = #[e0, e1, e2, e3] := by rw [← Array.toArray_toList (xs := cs), h3]
  rw [h4]
  exact h2
end
end Go.Proofs.YtobgmbfoofkdeaaDoor
