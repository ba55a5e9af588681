/- FragRow, FragName, WireImplA, WireRoom: our own definitions and contracts; no statement of the seat is proved here. -/
import Derived.Test.YteggocgfaejmbaaBase01
import Derived.OwnWalkIn
import Derived.Test.YteggocgfaejmbaaBase00
import Derived.RangeFuncNested
import Derived.RangeFuncBound
import Derived.RangeFuncCalls
import Derived.RangeFuncLeaves
import Derived.Shelf.Abstract
import Derived.Shelf.RegionOpen
import Derived.WalkKit
import Derived.TacticsInMore
import Derived.LoopNIn
import Derived.LoopIn
import Derived.Lib.AppendStr
import Derived.Laws.MakeOwn
namespace Go.Proofs.Yteggocgfaejmbaa
open Go.RowKit

/-- append of cells onto an owned row: the row goes on in its block, or in a new one. -/
theorem run_append_rowF {P : Program} (w : World) (t ty e : TypeId) (i : TypeInfo) (z : Value) (S Bt : Nat) (ht : P.underlying t = some (.slice e)) (hi : P.info? e = some i) (hz : i.zero = some z) (hs : i.size = S) (hb : i.bytes = Bt) (hzs : z.cells.size = S) (hS : 0 < S)
    (v : Value) (n : Nat) (xs : List Value) (hown : w.ownsRow 0 e S v n xs) (ao : Option Addr) (m c : Nat) (cs : List Value) (hcl : cs.length = m * S) (hsome : ∀ ad, ao = some ad → ∀ j u, cs[j]? = some u → w.cell? (ad.add j) = some u) (hnone : ao = none → m = 0 ∧ c = 0) (hone : ∀ u ∈ cs, u.oneCell' = true) (h63 : n + m ≤ maxLen) (hbytes : (n + m) * Bt ≤ 140737488355328) :
    ∃ v' w', (Builtin.append_ #[t, t] ty #[v, .slice ao m c]).run P w = .ok v' w' ∧ w'.ownsRow 0 e S v' (n + m) (xs ++ cs) ∧ w.grownBy w' v.ownBlock ∧
      (v'.ownBlock = v.ownBlock ∨ ∃ k, v'.ownBlock = some k ∧ w.heap.size ≤ k) := by
  cases ao with
  | none =>
    obtain ⟨rfl, rfl⟩ := hnone rfl
    have hcs : cs = [] := List.eq_nil_of_length_eq_zero (by omega)
    subst hcs
    exact ⟨v, w, run_append_owned_none (P := P) w 0 t ty e i S ht hi v n xs hown, by simpa using hown, World.grownBy.refl _ _, .inl rfl⟩
  | some ad =>
    have hc := hsome ad rfl
    have hxl : xs.length = n * S := hown.1
    rcases hown.2 with ⟨rfl, hn⟩ | ⟨g, cap, cur, rfl, _, hg, hnc, hcm, hcs, htk⟩
    · subst hn
      have hxn : xs = [] := List.eq_nil_of_length_eq_zero (by omega)
      subst hxn
      obtain ⟨v', w', hrun, r1, r2, _⟩ := run_append_own (P := P) w w.heap.size t ty e i z S Bt ht hi hz hs hb hzs hS (.slice none 0 0) 0 [] (World.ownsRow_nil w _ _ S) ad m c cs hcl hc hone (by omega) hbytes (Nat.le_refl _)
      refine ⟨v', w', hrun, ⟨r1.1, ?_⟩, r2, ?_⟩
      · rcases r1.2 with ⟨a, b⟩ | ⟨g, cap, cur, a, b, rest⟩
        · exact .inl ⟨a, b⟩
        · exact .inr ⟨g, cap, cur, a, Nat.zero_le _, rest⟩
      · rcases r1.2 with ⟨a, b⟩ | ⟨g, cap, cur, a, b, rest⟩
        · exact .inl (by rw [a])
        · exact .inr ⟨g, by rw [a]; rfl, b⟩
    · by_cases hroom : n + m ≤ cap
      · obtain ⟨w', hrun, r1, r2⟩ := run_append_fits (P := P) w 0 t ty e i S ht hi hs g n cap xs hown ad m c cs hcl hc hone hroom
        exact ⟨_, w', hrun, r1, r2, .inl rfl⟩
      · have hold : ∀ j u, xs[j]? = some u → w.cell? ((⟨g, 0, none⟩ : Addr).add j) = some u := hown.cells (g := g) rfl
        obtain ⟨v', w', hrun, r1, r2⟩ := run_append_arg_grows (P := P) w t ty e i z S Bt ht hi hz hs hb hzs hS ⟨g, 0, none⟩ n cap xs hxl hold ad m c cs hcl hc (by omega) h63 hbytes
        have r3 : w.grownBy w' (some g) := ⟨r2.os, r2.tape, r2.output, r2.size, fun k hk _ => r2.block k hk (by simp)⟩
        refine ⟨v', w', hrun, ⟨r1.1, ?_⟩, r3, ?_⟩
        · rcases r1.2 with ⟨a, b⟩ | ⟨g', cap', cur', a, b, rest⟩
          · exact .inl ⟨a, b⟩
          · exact .inr ⟨g', cap', cur', a, Nat.zero_le _, rest⟩
        · rcases r1.2 with ⟨a, b⟩ | ⟨g', cap', cur', a, b, rest⟩
          · omega
          · exact .inr ⟨g', by rw [a]; rfl, b⟩
theorem ownsF_keeps {W W' : World} {e : TypeId} {s : Nat} {v : Value} {n : Nat} {xs : List Value} (h : W.ownsRow 0 e s v n xs) (hk : ∀ k, v.ownBlock = some k → W'.heap[k]? = W.heap[k]?) : W'.ownsRow 0 e s v n xs := by
  refine ⟨h.1, ?_⟩
  rcases h.2 with hn | ⟨g, cap, cur, hv, hb0, hg, rest⟩
  · exact .inl hn
  · exact .inr ⟨g, cap, cur, hv, hb0, (hk g (by rw [hv]; rfl)).trans hg, rest⟩
theorem ownsF_form {W : World} {e : TypeId} {s : Nat} {v : Value} {n : Nat} {xs : List Value} (h : W.ownsRow 0 e s v n xs) : ∃ a c, v = .slice a n c ∧ n ≤ c ∧ c ≤ maxLen ∧ (∀ b, a = some b → b.off = 0 ∧ b.spot = none) := by
  rcases h.2 with ⟨rfl, rfl⟩ | ⟨g, cap, cur, rfl, _, hg, hnc, hcm, _⟩
  · exact ⟨none, 0, rfl, Nat.le_refl _, Nat.zero_le _, fun b hb => by cases hb⟩
  · exact ⟨_, cap, rfl, hnc, hcm, fun b hb => by cases hb; exact ⟨rfl, rfl⟩⟩

theorem infoStr0 : (Try.prog.info? 9).map (fun i => (i.size, i.bytes, i.zero.map (·.cells.size))) = some (1, 16, some 1) := by kernel_rfl
theorem infoStr : ∃ i z, Try.prog.info? 9 = some i ∧ i.zero = some z ∧ i.size = 1 ∧ i.bytes = 16 ∧ z.cells.size = 1 := by
  have h := infoStr0
  cases hi : Try.prog.info? 9 with
  | none => rw [hi] at h; cases h
  | some i =>
    rw [hi] at h
    simp only [Option.map_some, Option.some.injEq, Prod.mk.injEq] at h
    obtain ⟨h1, h2, h3⟩ := h
    cases hz : i.zero with
    | none => rw [hz] at h3; cases h3
    | some z =>
      rw [hz] at h3
      exact ⟨i, z, rfl, hz, h1, h2, by simpa using h3⟩
theorem infoItem0 : (Try.prog.info? 47).map (fun i => (i.size, i.bytes, i.zero.map (·.cells.size))) = some (6, 80, some 6) := by kernel_rfl
theorem infoItem : ∃ i z, Try.prog.info? 47 = some i ∧ i.zero = some z ∧ i.size = 6 ∧ i.bytes = 80 ∧ z.cells.size = 6 := by
  have h := infoItem0
  cases hi : Try.prog.info? 47 with
  | none => rw [hi] at h; cases h
  | some i =>
    rw [hi] at h
    simp only [Option.map_some, Option.some.injEq, Prod.mk.injEq] at h
    obtain ⟨h1, h2, h3⟩ := h
    cases hz : i.zero with
    | none => rw [hz] at h3; cases h3
    | some z =>
      rw [hz] at h3
      exact ⟨i, z, rfl, hz, h1, h2, by simpa using h3⟩

/-- Nothing of the block is frozen. -/
def NFr (W : World) (k : Nat) : Prop := ∀ i, W.frozen? ⟨k, i, none⟩ = false
theorem NFr.keep {W W' : World} {k : Nat} (h : NFr W k) (e : W'.heap[k]? = W.heap[k]?) : NFr W' k := fun i => (World.frozen?_of_block (a := ⟨k, i, none⟩) e).trans (h i)

/-- A text as a cell. -/
def sv (s : List UInt8) : Value := .string ⟨s.toArray⟩
theorem sv_one (l : List (List UInt8)) : ∀ u ∈ l.map sv, u.oneCell' = true := by
  intro u hu
  obtain ⟨_, _, rfl⟩ := List.mem_map.1 hu
  rfl
/-- The slice r, in a block of ours from B0 on, holds the texts. -/
structure StrsO (B0 : Nat) (W : World) (r : Value) (l : List (List UInt8)) : Prop where
  row : W.ownsRow 0 9 1 r l.length (l.map sv)
  new : ∀ k, r.ownBlock = some k → B0 ≤ k
  len : ∀ s ∈ l, s.length ≤ maxLen
theorem StrsO.nil (B0 : Nat) (W : World) : StrsO B0 W (.slice none 0 0) [] := ⟨World.ownsRow_nil W 0 _ 1, fun k hk => (by cases hk), fun s hs => (by cases hs)⟩
theorem StrsO.later {B0 : Nat} {W W' : World} {r : Value} {l : List (List UInt8)} (h : StrsO B0 W r l) (hb : Below W.heap.size W W') : StrsO B0 W' r l := ⟨ownsF_keeps h.row fun k hk => hb.block k (h.row.lt k hk).2, h.new, h.len⟩
theorem StrsO.kept {B0 : Nat} {W W' : World} {r : Value} {l : List (List UInt8)} (h : StrsO B0 W r l) (hk : ∀ k, r.ownBlock = some k → W'.heap[k]? = W.heap[k]?) : StrsO B0 W' r l := ⟨ownsF_keeps h.row hk, h.new, h.len⟩
theorem StrsO.lt {B0 : Nat} {W : World} {r : Value} {l : List (List UInt8)} (h : StrsO B0 W r l) {k : Nat} (hk : r.ownBlock = some k) : k < W.heap.size := (h.row.lt k hk).2
/-- What such a row reads as. -/
theorem StrsO.at {B0 : Nat} {W : World} {r : Value} {l : List (List UInt8)} (h : StrsO B0 W r l) : ∃ a c, r = .slice a l.length c ∧ l.length ≤ c ∧ c ≤ maxLen ∧ StrsAt (fun k => (B0 ≤ k ∧ NFr W k) ∧ r.ownBlock = some k) W a l := by
  rcases h.row.2 with ⟨rfl, hn⟩ | ⟨g, cap, cur, hr, _, hg, hnc, hcm, _⟩
  · have : l = [] := List.eq_nil_of_length_eq_zero hn
    subst this
    exact ⟨none, 0, rfl, Nat.le_refl _, Nat.zero_le _, StrsAt.nil _ _ _⟩
  · refine ⟨_, cap, hr, hnc, hcm, fun j hj => ⟨g, 0, rfl, ⟨⟨h.new g (by rw [hr]; rfl), fun i => frozen_of_row _ _ _ _ _ hg⟩, by rw [hr]; rfl⟩, ?_, h.len _ (List.getElem_mem hj)⟩⟩
    have h5 := h.row.cells (g := g) (by rw [hr]; rfl) j (sv (l[j]'hj)) (by rw [List.getElem?_map, List.getElem?_eq_getElem hj]; rfl)
    rw [Addr.add_mid] at h5
    exact h5
/-- append of texts. -/
theorem StrsO.append {B0 : Nat} {W : World} {r : Value} {l m : List (List UInt8)} (h : StrsO B0 W r l) (hB : B0 ≤ W.heap.size) {B : Nat → Prop} {a : Option Addr} {c : Nat} (hm : StrsAt B W a m) (hmc : m.length ≤ c) (ha : a = none → c = 0) (hl : l.length + m.length ≤ 1048576) (ty : TypeId) :
    ∃ r' W', (Builtin.append_ #[45, 45] ty #[r, .slice a m.length c]).run Try.prog W = .ok r' W' ∧ StrsO B0 W' r' (l ++ m) ∧ W.grownBy W' r.ownBlock ∧ (r'.ownBlock = r.ownBlock ∨ ∃ k, r'.ownBlock = some k ∧ W.heap.size ≤ k) := by
  obtain ⟨i, z, hi, hz, hs, hb, hzs⟩ := infoStr
  have hml : ∀ s ∈ m, s.length ≤ maxLen := fun s hs => by
    obtain ⟨j, hj, rfl⟩ := List.getElem_of_mem hs
    obtain ⟨_, _, _, _, _, h5⟩ := hm j hj
    exact h5
  obtain ⟨r', W', hrun, r1, r2, r3⟩ := run_append_rowF (P := Try.prog) W 45 ty 9 i z 1 16 Try.underlying45 hi hz hs hb hzs (by decide) r l.length (l.map sv) h.row a m.length c (m.map sv) (by simp) (fun ad had j u hu => by
    have hj : j < m.length := by have := (List.getElem?_eq_some_iff.1 hu).1; simpa using this
    obtain ⟨b, o, hb, _, hc, _⟩ := hm j hj
    rw [hb] at had
    cases had
    rw [List.getElem?_map, List.getElem?_eq_getElem hj] at hu
    cases hu
    rw [Addr.add_mid]
    exact hc) (fun e => ⟨by have := ha e; omega, ha e⟩) (sv_one m) (by unfold maxLen; omega) (by omega)
  refine ⟨r', W', hrun, ⟨by simpa using r1, fun k hk => ?_, fun s hs => ?_⟩, r2, r3⟩
  · rcases r3 with e | ⟨k', e, hle⟩
    · rw [e] at hk; exact h.new k hk
    · rw [e] at hk; cases hk; omega
  · rcases List.mem_append.1 hs with hs | hs
    · exact h.len s hs
    · exact hml s hs

/-- The i-th item of cells. -/
def aggF (xs : List Value) (i : Nat) : Value := .agg #[xs.getD (i * 6) undef, xs.getD (i * 6 + 1) undef, xs.getD (i * 6 + 2) undef, xs.getD (i * 6 + 3) undef, xs.getD (i * 6 + 4) undef, xs.getD (i * 6 + 5) undef]
theorem aggF_append {xs ys : List Value} {n i : Nat} (hx : xs.length = n * 6) (hi : i < n) : aggF (xs ++ ys) i = aggF xs i := by
  have ge : ∀ p, p < n * 6 → (xs ++ ys).getD p undef = xs.getD p undef := fun p hp => by
    rw [List.getD_eq_getElem?_getD, List.getD_eq_getElem?_getD, List.getElem?_append_left (by omega)]
  unfold aggF
  rw [ge _ (by omega), ge _ (by omega), ge _ (by omega), ge _ (by omega), ge _ (by omega), ge _ (by omega)]
theorem aggF_append_right {xs ys : List Value} {n i : Nat} (hx : xs.length = n * 6) : aggF (xs ++ ys) (n + i) = aggF ys i := by
  have ge : ∀ p, (xs ++ ys).getD (n * 6 + p) undef = ys.getD p undef := fun p => by
    rw [List.getD_eq_getElem?_getD, List.getD_eq_getElem?_getD, List.getElem?_append_right (by omega), hx, Nat.add_sub_cancel_left]
  unfold aggF
  rw [show (n + i) * 6 = n * 6 + i * 6 by omega, ge, Nat.add_assoc, ge, Nat.add_assoc, ge, Nat.add_assoc, ge, Nat.add_assoc, ge, Nat.add_assoc, ge]
/-- The slice r, in a block of ours from B0 on, holds the items; their names lie in other blocks, of B. -/
structure ItemsO (B0 : Nat) (B : World → Nat → Prop) (W : World) (r : Value) (q : List FI) : Prop where
  row : ∃ xs, W.ownsRow 0 47 6 r q.length xs ∧ ∀ i (h : i < q.length), (q[i]'h).At (fun k => B W k ∧ r.ownBlock ≠ some k) W (aggF xs i)
  new : ∀ k, r.ownBlock = some k → B0 ≤ k
theorem ItemsO.nil (B0 : Nat) (B : World → Nat → Prop) (W : World) : ItemsO B0 B W (.slice none 0 0) [] := ⟨⟨[], World.ownsRow_nil W 0 _ 6, fun i h => absurd h (Nat.not_lt_zero i)⟩, fun k hk => by cases hk⟩
theorem ItemsO.kept {B0 : Nat} {B : World → Nat → Prop} {W W' : World} {r : Value} {q : List FI} (h : ItemsO B0 B W r q) (hr : ∀ k, r.ownBlock = some k → W'.heap[k]? = W.heap[k]?) (hk : ∀ k, B W k → k < W.heap.size → W'.heap[k]? = W.heap[k]?) (hB : ∀ k, B W k → k < W.heap.size → B W' k) : ItemsO B0 B W' r q := by
  obtain ⟨⟨xs, h1, h2⟩, h3⟩ := h
  exact ⟨⟨xs, ownsF_keeps h1 hr, fun i hi => (h2 i hi).kept (fun k hk' hlt => hk k hk'.1 hlt) (fun k hk' hlt => ⟨hB k hk'.1 hlt, hk'.2⟩)⟩, h3⟩
theorem ItemsO.later {B0 : Nat} {B : World → Nat → Prop} {W W' : World} {r : Value} {q : List FI} (h : ItemsO B0 B W r q) (hb : Below W.heap.size W W') (hB : ∀ k, B W k → k < W.heap.size → B W' k) : ItemsO B0 B W' r q :=
  h.kept (fun k hk => by obtain ⟨xs, h1, _⟩ := h.row; exact hb.block k (h1.lt k hk).2) (fun k _ hk => hb.block k hk) hB
theorem ItemsO.lt {B0 : Nat} {B : World → Nat → Prop} {W : World} {r : Value} {q : List FI} (h : ItemsO B0 B W r q) {k : Nat} (hk : r.ownBlock = some k) : k < W.heap.size := by
  obtain ⟨xs, h1, _⟩ := h.row
  exact (h1.lt k hk).2
/-- What such a row reads as. -/
theorem ItemsO.at {B0 : Nat} {B : World → Nat → Prop} {W : World} {r : Value} {q : List FI} (h : ItemsO B0 B W r q) {C : Nat → Prop} (hC : ∀ k, B W k → C k) (hR : ∀ k, r.ownBlock = some k → NFr W k → C k) : FragAt C W q r := by
  obtain ⟨⟨xs, h1, h2⟩, h3⟩ := h
  rcases h1.2 with ⟨e, e0⟩ | ⟨g, cap, cur, e, _, hg, hc, hm, hcs, htk⟩
  · have : q = [] := List.eq_nil_of_length_eq_zero e0
    subst this
    rw [e]
    exact FragAt.nil _ _
  · refine ⟨some ⟨g, 0, none⟩, cap, e, hc, hm, fun j hj => ?_⟩
    have hxl : xs.length = q.length * 6 := h1.1
    have hcell : ∀ p, p < q.length * 6 → W.cell? ⟨g, 0 + p, none⟩ = some (xs.getD p undef) := fun p hp => by
      have h5 := h1.cells (g := g) (by rw [e]; rfl) p (xs.getD p undef) (by rw [List.getD_eq_getElem?_getD, List.getElem?_eq_getElem (by omega)]; rfl)
      rw [Addr.add_mid] at h5
      exact h5
    obtain ⟨pa, pc, hu, hf, hl, hcm, hS⟩ := h2 j hj
    unfold aggF FI.agg at hu
    simp only [Value.agg.injEq] at hu
    replace hu := congrArg Array.toList hu
    simp only [List.cons.injEq, and_true] at hu
    obtain ⟨e0, e1, e2, e3, e4, e5⟩ := hu
    refine ⟨g, 0, pa, pc, rfl, hR g (by rw [e]; rfl) (fun i => frozen_of_row _ _ _ _ _ hg), ⟨?_, ?_, ?_, ?_, ?_, ?_⟩, hf, hl, hcm, hS.kept (fun _ _ _ => rfl) (fun k hk _ => hC k hk.1)⟩
    · rw [hcell _ (by omega), e0]
    · have := hcell (j * 6 + 1) (by omega); rwa [e1, show 0 + (j * 6 + 1) = 0 + j * 6 + 1 by omega] at this
    · have := hcell (j * 6 + 2) (by omega); rwa [e2, show 0 + (j * 6 + 2) = 0 + j * 6 + 2 by omega] at this
    · have := hcell (j * 6 + 3) (by omega); rwa [e3, show 0 + (j * 6 + 3) = 0 + j * 6 + 3 by omega] at this
    · have := hcell (j * 6 + 4) (by omega); rwa [e4, show 0 + (j * 6 + 4) = 0 + j * 6 + 4 by omega] at this
    · have := hcell (j * 6 + 5) (by omega); rwa [e5, show 0 + (j * 6 + 5) = 0 + j * 6 + 5 by omega] at this
theorem ItemsO.form {B0 : Nat} {B : World → Nat → Prop} {W : World} {r : Value} {q : List FI} (h : ItemsO B0 B W r q) : ∃ a c, r = .slice a q.length c ∧ q.length ≤ c := by
  obtain ⟨⟨xs, h1, _⟩, _⟩ := h
  obtain ⟨a, c, h2, h3, _⟩ := ownsF_form h1
  exact ⟨a, c, h2, h3⟩

/-- The cells of items in a row. -/
theorem items_cells {B : Nat → Prop} {W : World} {a : Option Addr} {m : List FI} (hm : ItemsAt B W a m) : ∃ cs : List Value, cs.length = m.length * 6 ∧ (∀ ad, a = some ad → ∀ j u, cs[j]? = some u → W.cell? (ad.add j) = some u) ∧ (∀ u ∈ cs, u.oneCell' = true) ∧ ∀ i (h : i < m.length), (m[i]'h).At B W (aggF cs i) := by
  have key : ∀ n, n ≤ m.length → ∃ cs : List Value, cs.length = n * 6 ∧ (∀ ad, a = some ad → ∀ j u, cs[j]? = some u → W.cell? (ad.add j) = some u) ∧ (∀ u ∈ cs, u.oneCell' = true) ∧ ∀ i (h : i < m.length), i < n → (m[i]'h).At B W (aggF cs i) := by
    intro n
    induction n with
    | zero => intro _; exact ⟨[], rfl, fun ad _ j u hu => (by cases hu), fun u hu => (by cases hu), fun i _ h => absurd h (Nat.not_lt_zero i)⟩
    | succ n ih =>
      intro hn
      obtain ⟨cs, h1, h2, h3, h4⟩ := ih (by omega)
      have hnm : n < m.length := by omega
      obtain ⟨b, o, pa, pc, ha, hb, hc, hf, hl, hcm, hS⟩ := hm n hnm
      obtain ⟨y, hy⟩ : ∃ y, y = m[n]'hnm := ⟨_, rfl⟩
      rw [← hy] at hc hf hl hS
      obtain ⟨ys, hys⟩ : ∃ ys : List Value, ys = [.string ⟨y.name.toArray⟩, .int .u8 ((y.k : Nat) : Int), .slice pa y.after.length pc, .string ⟨y.over.toArray⟩, .int .i64 y.width, .int .i64 y.quota] := ⟨_, rfl⟩
      have hyl : ys.length = 6 := by rw [hys]; rfl
      refine ⟨cs ++ ys, by rw [List.length_append, h1, hyl]; omega, fun ad had j u hu => ?_, fun u hu => ?_, fun i hi hin => ?_⟩
      · rw [ha] at had
        cases had
        rw [Addr.add_mid]
        by_cases hj : j < n * 6
        · rw [List.getElem?_append_left (by omega)] at hu
          have := h2 _ ha j u hu
          rwa [Addr.add_mid] at this
        · rw [List.getElem?_append_right (by omega), h1] at hu
          obtain ⟨p, hp⟩ : ∃ p, j = n * 6 + p := ⟨j - n * 6, by omega⟩
          subst hp
          rw [Nat.add_sub_cancel_left, hys] at hu
          rw [← Nat.add_assoc]
          match p, hu with
          | 0, hu => cases hu; exact hc.c0
          | 1, hu => cases hu; exact hc.c1
          | 2, hu => cases hu; exact hc.c2
          | 3, hu => cases hu; exact hc.c3
          | 4, hu => cases hu; exact hc.c4
          | 5, hu => cases hu; exact hc.c5
          | p + 6, hu => simp at hu
      · rcases List.mem_append.1 hu with hu | hu
        · exact h3 u hu
        · rw [hys] at hu
          simp only [List.mem_cons, List.mem_nil_iff, or_false] at hu
          rcases hu with rfl | rfl | rfl | rfl | rfl | rfl <;> rfl
      · by_cases hlt : i < n
        · rw [aggF_append h1 hlt]
          exact h4 i hi hlt
        · have hi' : i = n := by omega
          have e : (m[i]'hi) = y := by rw [hy]; congr 1
          have e2 : aggF (cs ++ ys) i = y.agg pa pc := by
            have := aggF_append_right (ys := ys) (i := 0) h1
            rw [Nat.add_zero] at this
            rw [hi', this, hys]
            rfl
          rw [e, e2]
          exact ⟨pa, pc, rfl, hf, hl, hcm, hS⟩
  obtain ⟨cs, h1, h2, h3, h4⟩ := key m.length (Nat.le_refl _)
  exact ⟨cs, h1, h2, h3, fun i hi => h4 i hi hi⟩

/-- append of items: the row goes on in its block, or in a new one. -/
theorem ItemsO.append {B0 : Nat} {B : World → Nat → Prop} {W : World} {r : Value} {q m : List FI} (h : ItemsO B0 B W r q) (hB0 : B0 ≤ W.heap.size) {a : Option Addr} {c : Nat} (hm : ItemsAt (fun k => B W k ∧ r.ownBlock ≠ some k) W a m)
    (hB : ∀ W', W.grownBy W' r.ownBlock → ∀ k, B W k → r.ownBlock ≠ some k → k < W.heap.size → B W' k) (hmc : m.length ≤ c) (ha : a = none → c = 0) (hl : q.length + m.length ≤ 1048576) (ty : TypeId) :
    ∃ r' W', (Builtin.append_ #[22, 22] ty #[r, .slice a m.length c]).run Try.prog W = .ok r' W' ∧ ItemsO B0 B W' r' (q ++ m) ∧ W.grownBy W' r.ownBlock ∧ (r'.ownBlock = r.ownBlock ∨ ∃ k, r'.ownBlock = some k ∧ W.heap.size ≤ k) := by
  obtain ⟨i, z, hi, hz, hs, hb, hzs⟩ := infoItem
  obtain ⟨⟨xs, h1, h2⟩, h3⟩ := h
  obtain ⟨cs, g1, g2, g3, g4⟩ := items_cells hm
  have hxl : xs.length = q.length * 6 := h1.1
  obtain ⟨r', W', hrun, r1, r2, r3⟩ := run_append_rowF (P := Try.prog) W 22 ty 47 i z 6 80 Try.underlying22 hi hz hs hb hzs (by decide) r q.length xs h1 a m.length c cs g1 g2 (fun e => ⟨by have := ha e; omega, ha e⟩) g3 (by unfold maxLen; omega) (by omega)
  have kept : ∀ {y : FI} {u : Value}, y.At (fun k => B W k ∧ r.ownBlock ≠ some k) W u → y.At (fun k => B W' k ∧ r'.ownBlock ≠ some k) W' u := fun hy =>
    hy.kept (fun k hk hlt => r2.block k hlt (fun e => hk.2 e.symm)) (fun k hk hlt => ⟨hB W' r2 k hk.1 hk.2 hlt, fun e => by
      rcases r3 with e2 | ⟨k', e2, hle⟩
      · rw [e2] at e; exact hk.2 e
      · rw [e2] at e; cases e; omega⟩)
  refine ⟨r', W', hrun, ⟨⟨xs ++ cs, by rw [List.length_append]; exact r1, fun i hi => ?_⟩, fun k hk => ?_⟩, r2, r3⟩
  · rw [List.length_append] at hi
    by_cases hlt : i < q.length
    · rw [List.getElem_append_left hlt, aggF_append hxl hlt]
      exact kept (h2 i hlt)
    · obtain ⟨p, rfl⟩ : ∃ p, i = q.length + p := ⟨i - q.length, by omega⟩
      rw [aggF_append_right hxl]
      have hp : p < m.length := by omega
      have e : (q ++ m)[q.length + p] = m[p] := by rw [List.getElem_append_right (by omega)]; simp only [Nat.add_sub_cancel_left]
      rw [e]
      exact kept (g4 p hp)
  · rcases r3 with e | ⟨k', e, hle⟩
    · rw [e] at hk; exact h3 k hk
    · rw [e] at hk; cases hk; omega
end Go.Proofs.Yteggocgfaejmbaa

namespace Go.Proofs.Yteggocgfaejmbaa
open Go.RowKit

theorem chB_cases (y : UInt8) : (97 ≤ y.toNat ∧ y.toNat ≤ 122 ∧ chB y = true) ∨ (122 < y.toNat ∧ chB y = false) ∨ (y.toNat < 97 ∧ 48 ≤ y.toNat ∧ y.toNat ≤ 57 ∧ chB y = true) ∨ (y.toNat = 95 ∧ chB y = true) ∨ (y.toNat < 97 ∧ 57 < y.toNat ∧ y.toNat ≠ 95 ∧ chB y = false) ∨ (y.toNat < 48 ∧ chB y = false) := by
  have hc : chB y = true ↔ (97 ≤ y.toNat ∧ y.toNat ≤ 122) ∨ (48 ≤ y.toNat ∧ y.toNat ≤ 57) ∨ y.toNat = 95 := by
    unfold chB
    simp only [Bool.or_eq_true, Bool.and_eq_true, decide_eq_true_eq, or_assoc]
  have hf : chB y = false ↔ ¬ ((97 ≤ y.toNat ∧ y.toNat ≤ 122) ∨ (48 ≤ y.toNat ∧ y.toNat ≤ 57) ∨ y.toNat = 95) := by rw [← hc]; simp
  rw [hc, hf]
  omega

set_option maxHeartbeats 1000000 in
theorem inName_any (y : UInt8) (w : World) : Calls Try.prog 29 #[.int .u8 ((y.toNat : Nat) : Int)] w fun e w' => e = .returned (.bool (chB y)) ∧ w' = w := by
  have hy := y.toNat_lt
  rcases chB_cases y with ⟨h1, h2, h⟩ | ⟨h1, h⟩ | ⟨h1, h2, h3, h⟩ | ⟨h1, h⟩ | ⟨h1, h2, h3, h⟩ | ⟨h1, h⟩
  all_goals (
    rw [h]
    clear h
    generalize y.toNat = Y at *)
  · have p1 : ((Y : Nat) : Int) ≥ 97 := by omega
    have p2 : ((Y : Nat) : Int) ≤ 122 := by omega
    go_enter Try.func29, Try.ntmps29
    go_wp2_with fail
    go_ret
    exact ⟨rfl, rfl⟩
  · have p1 : ((Y : Nat) : Int) ≥ 97 := by omega
    have p2 : ¬ ((Y : Nat) : Int) ≤ 122 := by omega
    have p3 : ((Y : Nat) : Int) ≥ 48 := by omega
    have p4 : ¬ ((Y : Nat) : Int) ≤ 57 := by omega
    have p5 : (((Y : Nat) : Int) == 95) = false := by rw [beq_eq_false_iff_ne]; omega
    go_enter Try.func29, Try.ntmps29
    go_wp2_with fail
    go_ret
    exact ⟨rfl, rfl⟩
  · have p1 : ¬ ((Y : Nat) : Int) ≥ 97 := by omega
    have p3 : ((Y : Nat) : Int) ≥ 48 := by omega
    have p4 : ((Y : Nat) : Int) ≤ 57 := by omega
    go_enter Try.func29, Try.ntmps29
    go_wp2_with fail
    go_ret
    exact ⟨rfl, rfl⟩
  · have p1 : ¬ ((Y : Nat) : Int) ≥ 97 := by omega
    have p3 : ((Y : Nat) : Int) ≥ 48 := by omega
    have p4 : ¬ ((Y : Nat) : Int) ≤ 57 := by omega
    have p5 : (((Y : Nat) : Int) == 95) = true := by rw [beq_iff_eq]; omega
    clear h1
    go_enter Try.func29, Try.ntmps29
    go_wp2_with fail
    go_ret
    exact ⟨rfl, rfl⟩
  · have p1 : ¬ ((Y : Nat) : Int) ≥ 97 := by omega
    have p3 : ((Y : Nat) : Int) ≥ 48 := by omega
    have p4 : ¬ ((Y : Nat) : Int) ≤ 57 := by omega
    have p5 : (((Y : Nat) : Int) == 95) = false := by rw [beq_eq_false_iff_ne]; omega
    clear h3
    go_enter Try.func29, Try.ntmps29
    go_wp2_with fail
    go_ret
    exact ⟨rfl, rfl⟩
  · have p1 : ¬ ((Y : Nat) : Int) ≥ 97 := by omega
    have p3 : ¬ ((Y : Nat) : Int) ≥ 48 := by omega
    have p5 : (((Y : Nat) : Int) == 95) = false := by rw [beq_eq_false_iff_ne]; omega
    go_enter Try.func29, Try.ntmps29
    go_wp2_with fail
    go_ret
    exact ⟨rfl, rfl⟩

theorem str_size (s : List UInt8) : (⟨s.toArray⟩ : ByteArray).size = s.length := by simp [ByteArray.size]
theorem str_index (s : List UInt8) (j : Nat) (h : j < s.length) (W : World) : (Instr.index 9 (.string ⟨s.toArray⟩) (.int .i64 ((j : Nat) : Int))).run Try.prog W = .ok (.int .u8 (((s[j]'h).toNat : Nat) : Int)) W := by
  rw [run_index_string W 9 _ .i64 _ Try.underlying9, dif_pos ⟨by omega, by rw [str_size]; omega⟩]
  rfl
theorem all_take_succ {p : UInt8 → Bool} {s : List UInt8} {j : Nat} (h : j < s.length) : (s.take (j + 1)).all p = ((s.take j).all p && p (s[j]'h)) := by
  rw [List.take_succ_eq_append_getElem h, List.all_append]
  simp
theorem all_take_false {p : UInt8 → Bool} {s : List UInt8} {j : Nat} (h : j < s.length) (hp : p (s[j]'h) = false) : s.all p = false := by
  rw [Bool.eq_false_iff]
  intro e
  have := List.all_eq_true.1 e _ (List.getElem_mem h)
  rw [hp] at this
  cases this

set_option maxRecDepth 100000 in
set_option maxHeartbeats 2000000 in
theorem fName_any (s : List UInt8) (w : World) : Calls Try.prog 13 #[.string ⟨s.toArray⟩] w fun e w' => e = .returned (.bool (nameB s)) ∧ w' = w := by
  have hsz := str_size s
  have HIX := hide (str_index s)
  obtain ⟨n, hn⟩ : ∃ n, n = s.length := ⟨_, rfl⟩
  rw [← hn] at hsz
  have HN := hide hn
  obtain ⟨z, hz⟩ : ∃ z : ByteArray, z = ⟨s.toArray⟩ := ⟨_, rfl⟩
  rw [← hz] at hsz ⊢
  have HZ := hide hz
  by_cases h1 : n < 1
  · have p1 : ((n : Nat) : Int) < 1 := by omega
    have HV : Hid (nameB s = false) := by show _ = _; unfold nameB; rw [← hn, decide_eq_false (show ¬ 1 ≤ n by omega)]; rfl
    rw [unhide HV]
    clear hn hz h1
    go_enter Try.func13, Try.ntmps13
    go_wp2_with fail
    go_ret
    exact ⟨rfl, rfl⟩
  have p1 : ¬ ((n : Nat) : Int) < 1 := by omega
  by_cases h2 : n > 20
  · have p2 : ((n : Nat) : Int) > 20 := by omega
    have HV : Hid (nameB s = false) := by show _ = _; unfold nameB; rw [← hn, decide_eq_false (show ¬ n ≤ 20 by omega)]; simp
    rw [unhide HV]
    clear hn hz h1 h2
    go_enter Try.func13, Try.ntmps13
    go_wp2_with fail
    go_ret
    exact ⟨rfl, rfl⟩
  have p2 : ¬ ((n : Nat) : Int) > 20 := by omega
  have hn20 : n ≤ 20 := by omega
  have HV : Hid (nameB s = s.all chB) := by show _ = _; unfold nameB; rw [← hn, decide_eq_true (show 1 ≤ n by omega), decide_eq_true hn20]; rfl
  rw [unhide HV]
  clear hn hz h1 h2 HV
  go_enter Try.func13, Try.ntmps13
  go_wp2
  go_loopw [14] (fun k W => ∃ j : Nat, j ≤ n ∧ k = .int .i64 ((j : Nat) : Int) ∧ (s.take j).all chB = true ∧ W = w) (fun k _ => n - (intOf k).toNat)
  case atStart => exact ⟨0, by omega, rfl, rfl, rfl⟩
  case round =>
    obtain ⟨j, hj, rfl, ha, hw⟩ := hrel
    rw [hw]
    clear hw
    have HA := hide ha
    clear ha
    by_cases hlt : j < n
    · have hji : ((j : Nat) : Int) < ((n : Nat) : Int) := by omega
      have hjs : j < s.length := by have := unhide HN; omega
      have hix := unhide HIX j hjs
      rw [← unhide HZ] at hix
      have HTS := hide (all_take_succ (p := chB) hjs)
      have HTF := hide (all_take_false (p := chB) hjs)
      generalize s[j] = y at *
      go_wp2_with fail
      refine (inName_any y _).mono ?_
      rintro e w1 ⟨rfl, hw⟩
      rw [hw]
      clear hw w1
      rcases hc : chB y with _ | _
      · have HF := hide (unhide HTF hc)
        go_wp2_with fail
        go_ret
        exact ⟨ret_bool (unhide HF).symm, rfl⟩
      · have HT : Hid ((s.take (j + 1)).all chB = true) := by show _ = _; rw [unhide HTS, unhide HA, hc]; rfl
        go_wp2_with fail
        exact ⟨⟨j + 1, by omega, by go_num, unhide HT, trivial⟩, by simp [intOf]; omega⟩
    · have e : j = n := by omega
      have hji : ¬ ((j : Nat) : Int) < ((n : Nat) : Int) := by omega
      have HF : Hid (s.all chB = true) := by
        show _ = _
        have h := unhide HA
        rw [List.take_of_length_le (by have := unhide HN; omega)] at h
        exact h
      clear e
      go_wp2_with fail
      go_ret
      exact ⟨ret_bool (unhide HF).symm, rfl⟩

set_option maxRecDepth 100000 in
set_option maxHeartbeats 2000000 in
theorem rName_any (s : List UInt8) (hs : s.length ≤ 1000000) (w : World) : Calls Try.prog 14 #[.string ⟨s.toArray⟩] w fun e w' => e = .returned (.bool (nameB s)) ∧ w' = w := by
  have hsz := str_size s
  have HIX := hide (str_index s)
  obtain ⟨n, hn⟩ : ∃ n, n = s.length := ⟨_, rfl⟩
  rw [← hn] at hsz hs
  have HN := hide hn
  obtain ⟨z, hz⟩ : ∃ z : ByteArray, z = ⟨s.toArray⟩ := ⟨_, rfl⟩
  rw [← hz] at hsz ⊢
  have HZ := hide hz
  clear hn hz
  go_enter Try.func14, Try.ntmps14
  go_wp2
  go_loopw [3] (fun k W => ∃ j : Nat, j ≤ n ∧ k = .int .i64 ((j : Nat) : Int) ∧ (s.take j).all chB = true ∧ W = w) (fun k _ => n - (intOf k).toNat)
  case atStart => exact ⟨0, by omega, rfl, rfl, rfl⟩
  case round =>
    obtain ⟨j, hj, rfl, ha, hw⟩ := hrel
    rw [hw]
    clear hw
    have HA := hide ha
    clear ha
    by_cases hlt : j < n
    · have hji : ((j : Nat) : Int) < ((n : Nat) : Int) := by omega
      have hjs : j < s.length := by have := unhide HN; omega
      have hix := unhide HIX j hjs
      rw [← unhide HZ] at hix
      have HTS := hide (all_take_succ (p := chB) hjs)
      have HTF := hide (all_take_false (p := chB) hjs)
      generalize s[j] = y at *
      have hcc := chB_cases y
      have hyl := y.toNat_lt
      obtain ⟨q, hq⟩ : ∃ q, q = chB y := ⟨_, rfl⟩
      rw [← hq] at hcc HTS HTF
      have HNF : Hid (q = false → nameB s = false) := fun h => by unfold nameB; rw [unhide HTF h, Bool.and_false]
      clear hq HTF
      generalize y.toNat = Y at *
      rcases hcc with ⟨h1, h2, h⟩ | ⟨h1, h⟩ | ⟨h1, h2, h3, h⟩ | ⟨h1, h⟩ | ⟨h1, h2, h3, h⟩ | ⟨h1, h⟩
      · have p1 : ((Y : Nat) : Int) ≥ 97 := by omega
        have p2 : ((Y : Nat) : Int) ≤ 122 := by omega
        have HT : Hid ((s.take (j + 1)).all chB = true) := by show _ = _; rw [unhide HTS, unhide HA, h]; rfl
        clear h
        go_wp2_with fail
        exact ⟨⟨j + 1, by omega, by go_num, unhide HT, trivial⟩, by simp [intOf]; omega⟩
      · have p1 : ((Y : Nat) : Int) ≥ 97 := by omega
        have p2 : ¬ ((Y : Nat) : Int) ≤ 122 := by omega
        have p3 : ((Y : Nat) : Int) ≥ 48 := by omega
        have p4 : ¬ ((Y : Nat) : Int) ≤ 57 := by omega
        have p5 : (((Y : Nat) : Int) == 95) = false := by rw [beq_eq_false_iff_ne]; omega
        have HF := hide (unhide HNF h)
        clear h
        go_wp2_with fail
        go_ret
        exact ⟨ret_bool (unhide HF).symm, rfl⟩
      · have p1 : ¬ ((Y : Nat) : Int) ≥ 97 := by omega
        have p3 : ((Y : Nat) : Int) ≥ 48 := by omega
        have p4 : ((Y : Nat) : Int) ≤ 57 := by omega
        have HT : Hid ((s.take (j + 1)).all chB = true) := by show _ = _; rw [unhide HTS, unhide HA, h]; rfl
        clear h
        go_wp2_with fail
        exact ⟨⟨j + 1, by omega, by go_num, unhide HT, trivial⟩, by simp [intOf]; omega⟩
      · have p1 : ¬ ((Y : Nat) : Int) ≥ 97 := by omega
        have p3 : ((Y : Nat) : Int) ≥ 48 := by omega
        have p4 : ¬ ((Y : Nat) : Int) ≤ 57 := by omega
        have p5 : (((Y : Nat) : Int) == 95) = true := by rw [beq_iff_eq]; omega
        have HT : Hid ((s.take (j + 1)).all chB = true) := by show _ = _; rw [unhide HTS, unhide HA, h]; rfl
        clear h h1
        go_wp2_with fail
        exact ⟨⟨j + 1, by omega, by go_num, unhide HT, trivial⟩, by simp [intOf]; omega⟩
      · have p1 : ¬ ((Y : Nat) : Int) ≥ 97 := by omega
        have p3 : ((Y : Nat) : Int) ≥ 48 := by omega
        have p4 : ¬ ((Y : Nat) : Int) ≤ 57 := by omega
        have p5 : (((Y : Nat) : Int) == 95) = false := by rw [beq_eq_false_iff_ne]; omega
        have HF := hide (unhide HNF h)
        clear h h3
        go_wp2_with fail
        go_ret
        exact ⟨ret_bool (unhide HF).symm, rfl⟩
      · have p1 : ¬ ((Y : Nat) : Int) ≥ 97 := by omega
        have p3 : ¬ ((Y : Nat) : Int) ≥ 48 := by omega
        have p5 : (((Y : Nat) : Int) == 95) = false := by rw [beq_eq_false_iff_ne]; omega
        have HF := hide (unhide HNF h)
        clear h
        go_wp2_with fail
        go_ret
        exact ⟨ret_bool (unhide HF).symm, rfl⟩
    · have e : j = n := by omega
      have hji : ¬ ((j : Nat) : Int) < ((n : Nat) : Int) := by omega
      have HF : Hid (nameB s = (decide (1 ≤ n) && decide (n ≤ 20))) := by
        show _ = _
        have h := unhide HA
        rw [List.take_of_length_le (by have := unhide HN; omega)] at h
        unfold nameB
        rw [h, ← unhide HN, Bool.and_true]
      clear e hlt
      by_cases h1 : 1 ≤ n
      · have p1 : ((n : Nat) : Int) ≥ 1 := by omega
        have H1 := hide h1
        by_cases h2 : n ≤ 20
        · have p2 : ((n : Nat) : Int) ≤ 20 := by omega
          have H2 := hide h2
          clear h1 h2
          go_wp2_with fail
          go_ret
          exact ⟨ret_bool (by rw [unhide HF, decide_eq_true (unhide H1), decide_eq_true (unhide H2)]; rfl), rfl⟩
        · have p2 : ¬ ((n : Nat) : Int) ≤ 20 := by omega
          have H2 := hide h2
          clear h1 h2
          go_wp2_with fail
          go_ret
          exact ⟨ret_bool (by rw [unhide HF, decide_eq_true (unhide H1), decide_eq_false (unhide H2)]; rfl), rfl⟩
      · have p1 : ¬ ((n : Nat) : Int) ≥ 1 := by omega
        have H1 := hide h1
        clear h1
        go_wp2_with fail
        go_ret
        exact ⟨ret_bool (by rw [unhide HF, decide_eq_false (unhide H1)]; rfl), rfl⟩
end Go.Proofs.Yteggocgfaejmbaa

namespace Go.Proofs.Yteggocgfaejmbaa
open Go.RowKit Go.Shelf
attribute [local go_sem] Oper.semAt_some

theorem folded_any (n : Int) (hn : InR n) (w : World) : Calls Try.prog 89 #[.int .i64 n] w fun e w' => e = .returned (.int .u64 (zz n : Nat)) ∧ w' = w := by
  obtain ⟨h1, h2⟩ := hn
  by_cases h : n < 0
  · have HZ : Hid ((zz n : Int) = -2 * n - 1) := by show _ = _; unfold zz; rw [if_pos h]; omega
    go_enter Try.func89, Try.ntmps89
    go_wp2
    go_ret
    refine ⟨ret_int ?_, rfl⟩
    rw [unhide HZ]
    simp only [IntKind.wrap_u64]
    omega
  · have HZ : Hid ((zz n : Int) = 2 * n) := by show _ = _; unfold zz; rw [if_neg h]; omega
    go_enter Try.func89, Try.ntmps89
    go_wp2
    go_ret
    refine ⟨ret_int ?_, rfl⟩
    rw [unhide HZ]

theorem unfolded_any (u : Nat) (hu : u < 18446744073709551616) (w : World) : Calls Try.prog 85 #[.int .u64 (u : Nat)] w fun e w' => e = .returned (.int .i64 (unz u)) ∧ w' = w := by
  have HU := hide hu
  by_cases h : u % 2 = 1
  · have h' : (u : Int) % 2 = 1 := by omega
    have HZ : Hid (unz u = -((u / 2 : Nat) : Int) - 1) := by show _ = _; unfold unz; rw [if_pos h]
    go_enter Try.func85, Try.ntmps85
    go_wp2
    go_ret
    refine ⟨ret_int ?_, rfl⟩
    rw [unhide HZ]
    omega
  · have h' : ¬ (u : Int) % 2 = 1 := by omega
    have HZ : Hid (unz u = ((u / 2 : Nat) : Int)) := by show _ = _; unfold unz; rw [if_neg h]
    go_enter Try.func85, Try.ntmps85
    go_wp2
    go_ret
    refine ⟨ret_int ?_, rfl⟩
    rw [unhide HZ]
    omega

theorem isLast_any (x : Nat) (w : World) : Calls Try.prog 84 #[.int .u8 (x : Nat)] w fun e w' => e = .returned (.bool (decide (x < 128))) ∧ w' = w := by
  go_enter Try.func84, Try.ntmps84
  go_wp2
  go_ret
  exact ⟨ret_bool (by rw [Bool.eq_iff_iff]; simp; omega), rfl⟩

theorem groups_any (u : Nat) (w : World) :
    Calls Try.prog 88 #[.int .u64 (u : Nat)] w fun e w' => e = .returned (.func (.func 90) #[] #[.pointer (some ⟨w.heap.size, 0, none⟩)]) ∧ w' = w.alloc (.cells #[.int .u64 (u : Nat)] 91) := by
  go_enter Try.func88, Try.ntmps88
  go_wp2
  go_ret
  exact ⟨rfl, rfl⟩

theorem or128 (v : Nat) : bits .or .u8 128 (((v : Nat) : Int) % 256) = (((UInt8.ofNat (128 + v % 128)).toNat : Nat) : Int) := by
  have h : ∀ x : Fin 256, (128 ||| x.val) = 128 + x.val % 128 := by decide +kernel
  have h2 := u8_or_nat 128 (v % 256) (by omega) (by omega)
  have h3 := h ⟨v % 256, by omega⟩
  simp only at h3
  rw [h3] at h2
  rw [u8_toNat (by omega), show ((v : Nat) : Int) % 256 = ((v % 256 : Nat) : Int) by omega]
  refine Eq.trans h2 ?_
  omega

set_option maxRecDepth 100000 in
set_option maxHeartbeats 2000000 in
/-- The closure that tells the groups. -/
theorem groups1_in (n : Nat) (hn : 1 ≤ n) (l Bu u : Nat) (hu : u < 18446744073709551616) (J Jx : List UInt8 → World → Prop)
    (hY : ∀ pre x W, J pre W → pre.length < (grp u).length → YieldAt Fence.wide (n - 1) Try.prog l #[bv x] W fun e W' =>
      (e = .returned (.bool true) ∧ J (pre ++ [x]) W' ∧ True) ∨ (e = .returned (.bool false) ∧ Jx (pre ++ [x]) W'))
    (W : World) (hf : W.cell? ⟨Bu, 0, none⟩ = some (.int .u64 ((u : Nat) : Int))) (h0 : J [] W) :
    CallsIn Fence.wide n Try.prog 90 #[.func (.yield l) #[] #[], .pointer (some ⟨Bu, 0, none⟩)] W fun e W' => (∃ v, e = .returned v) ∧
      ((∃ ys, ys = grp u ∧ J ys W') ∨ (∃ pre, True ∧ Jx pre W')) := by
  have HY := hide hY
  clear hY
  refine callsIn_of_wp Try.func90 rfl trivial ?_ rfl
  simp only [Try.ntmps90, List.size_toArray, List.length_cons, List.length_nil, Nat.reduceAdd, Nat.reduceSub, Array.replicate_succ, Array.replicate_zero, List.push_toArray, List.append_toArray, List.nil_append, List.cons_append]
  gi_wp2
  gi_loopw [3] (fun r wr => ∃ (v : Nat) (pre : List UInt8), r = .int .u64 ((v : Nat) : Int) ∧ v ≤ u ∧ pre ++ grp v = grp u ∧ J pre wr)
    (fun r _ => (intOf r).toNat)
  case atStart => exact ⟨u, [], rfl, Nat.le_refl _, rfl, h0⟩
  case round =>
    obtain ⟨v, pre, rfl, hv, he, hJ⟩ := hrel
    have HE := hide he
    have HJ := hide hJ
    clear he hJ
    by_cases hlt : 128 ≤ v
    · have hge : ((v : Nat) : Int) ≥ 128 := by omega
      have HX := hide (or128 v)
      have HL : Hid (pre.length < (grp u).length) := by
        show _ < _
        have h1 := congrArg List.length (unhide HE)
        have := grp_pos v
        rw [List.length_append] at h1
        omega
      have HN : Hid ((pre ++ [UInt8.ofNat (128 + v % 128)]) ++ grp (v / 128) = grp u) := by
        show _ = _
        rw [← unhide HE, grp_high hlt, List.append_assoc]; rfl
      generalize UInt8.ofNat (128 + v % 128) = x at *
      obtain ⟨fn, tmps, assign, body, hy, hR⟩ := unhide HY pre x wr (unhide HJ) (unhide HL)
      have hx := unhide HX
      have hy : (Instr.yield l #[.int .u8 ((x.toNat : Nat) : Int)]).run Try.prog wr = .ok (.round l fn tmps assign body) wr := hy
      gi_wp2
      refine hR.mono ?_
      clear hx hy hR
      rintro e W3 (⟨rfl, hJ3, _⟩ | ⟨rfl, hJx3⟩)
      · gi_wp2
        go_roundw
        case rel => exact ⟨v / 128, _, by go_num, by omega, unhide HN, hJ3⟩
        case measure => simp [intOf]; omega
      · gi_wp2
        refine bodyPost_ret (results_none rfl _ _ _) rfl ?_
        exact ⟨⟨_, rfl⟩, .inr ⟨_, trivial, hJx3⟩⟩
    · have hge : ¬ ((v : Nat) : Int) ≥ 128 := by omega
      have HX0 : Hid (((v : Nat) : Int) = (((UInt8.ofNat v).toNat : Nat) : Int)) := by show _ = _; rw [u8_toNat (by omega)]
      have HL : Hid (pre.length < (grp u).length) := by
        show _ < _
        have h1 := congrArg List.length (unhide HE)
        have := grp_pos v
        rw [List.length_append] at h1
        omega
      have HN : Hid (pre ++ [UInt8.ofNat v] = grp u) := by
        show _ = _
        rw [← unhide HE, grp_low (by omega)]
      generalize UInt8.ofNat v = x at *
      obtain ⟨fn, tmps, assign, body, hy, hR⟩ := unhide HY pre x wr (unhide HJ) (unhide HL)
      have hy : (Instr.yield l #[.int .u8 ((v : Nat) : Int)]).run Try.prog wr = .ok (.round l fn tmps assign body) wr := by rw [unhide HX0]; exact hy
      gi_wp2
      refine hR.mono ?_
      clear hy hR
      rintro e W3 (⟨rfl, hJ3, _⟩ | ⟨rfl, hJx3⟩)
      · gi_wp2
        go_end0
        exact ⟨⟨_, rfl⟩, .inl ⟨_, unhide HN, hJ3⟩⟩
      · gi_wp2
        go_end0
        exact ⟨⟨_, rfl⟩, .inr ⟨_, trivial, hJx3⟩⟩

/-- The iterator's contract. -/
theorem groups_stops (n : Nat) (hn : 1 ≤ n) (Bu u : Nat) (hu : u < 18446744073709551616) (w : World) (hf : w.cell? ⟨Bu, 0, none⟩ = some (.int .u64 ((u : Nat) : Int))) :
    SeqStopsK Fence.wide n Try.prog 90 #[.pointer (some ⟨Bu, 0, none⟩)] (fun x : UInt8 => #[bv x]) (fun _ _ => True) (fun ys => ys = grp u) (fun _ => True) (grp u).length w := fun l J Jx W hW _ _ hY h0 =>
  groups1_in n hn l Bu u hu J Jx hY W ((hW.cell (p := ⟨Bu, 0, none⟩) (World.block_lt_of_cell? w _ hf)).trans hf) h0

theorem wboxNew (W : World) (v : Value) (t : TypeId) : (W.alloc (.cells #[v] t)).cell? ⟨W.heap.size, 0, none⟩ = some v ∧ (W.alloc (.cells #[v] t)).frozen? ⟨W.heap.size, 0, none⟩ = false := ⟨by simp, by simp⟩
theorem wboxKept {W : World} {a : Addr} {v : Value} (o : Obj) (h : W.cell? a = some v) : (W.alloc o).cell? a = some v := cell_kept h (World.grownBy_alloc W o none) (fun r e => by cases e)
theorem wboxFrozen {W : World} {a : Addr} {v : Value} (o : Obj) (h : W.cell? a = some v) (hf : W.frozen? a = false) : (W.alloc o).frozen? a = false := (frozen_kept h (World.grownBy_alloc W o none) (fun r e => by cases e)).trans hf

set_option maxRecDepth 100000 in
set_option maxHeartbeats 2000000 in
theorem size_any (n : Int) (hn : InR n) (w : World) : Calls Try.prog 81 #[.int .i64 n] w fun e w' => e = .returned (.int .i64 ((numB n).length : Nat)) ∧ Below w.heap.size w w' := by
  obtain ⟨w2, hw2⟩ : ∃ w2, w2 = (w.alloc (.cells #[.int .i64 0] 3)).alloc (.cells #[.int .u64 ((zz n : Nat) : Int)] 91) := ⟨_, rfl⟩
  have HB0 : Hid (Below w.heap.size w w2) := by rw [hw2]; exact ((Below.refl _ w).alloc (Nat.le_refl _) _).alloc (by simp) _
  have HSZ : Hid (w2.heap.size = w.heap.size + 2) := by rw [hw2]; show _ = _; simp
  have c0 : w2.cell? ⟨w.heap.size, 0, none⟩ = some (.int .i64 0) ∧ w2.frozen? ⟨w.heap.size, 0, none⟩ = false := by
    have c := wboxNew w (.int .i64 0) 3
    rw [hw2]
    exact ⟨wboxKept _ c.1, wboxFrozen _ c.1 c.2⟩
  have c1 : w2.cell? ⟨w.heap.size + 1, 0, none⟩ = some (.int .u64 ((zz n : Nat) : Int)) := by
    have c := wboxNew (w.alloc (.cells #[.int .i64 0] 3)) (.int .u64 ((zz n : Nat) : Int)) 91
    rw [World.size_alloc] at c
    rw [hw2]
    exact c.1
  have C0 := hide c0
  have C1 := hide c1
  have HW2 := hide hw2
  have HI := hide hn
  have HT := hide (numB_ten hn)
  clear c0 c1 hw2 hn
  refine (callsIn_wide (n := 3)).1 ?_
  refine callsIn_of_wp_marks Try.func81 rfl trivial ?_ rfl
  simp only [Try.ntmps81, List.size_toArray, List.length_cons, List.length_nil, Nat.reduceAdd, Nat.reduceSub, Array.replicate_succ, Array.replicate_zero, List.push_toArray, List.append_toArray, List.nil_append, List.cons_append]
  gi_wp2
  refine ⟨trivial, (callsIn_wide.2 (folded_any n (unhide HI) _)).mono ?_⟩
  rintro e w' ⟨rfl, rfl⟩
  gi_wp2
  refine ⟨trivial, (callsIn_wide.2 (groups_any (zz n) _)).mono ?_⟩
  rintro e w' ⟨rfl, rfl⟩
  rw [← unhide HW2]
  simp only [World.size_alloc]
  gi_wp2
  have hsz := unhide HSZ
  refine wpIn_rangeFunc_ownF rfl (by omega) (gf := 90) (lb := #[.pointer (some ⟨w.heap.size + 1, 0, none⟩)]) rfl trivial (enters_of Try.func90 (by kernel_rfl) rfl)
    (groups_stops (3 - 1) (by omega) (w.heap.size + 1) (zz n) (zz_lt (unhide HI)) w2 (unhide C1)) (fun _ _ => trivial) (fun _ _ _ _ _ _ _ _ => trivial) (Below.refl _ _) (fun _ => rfl)
    (fun pre W => (W.cell? ⟨w.heap.size, 0, none⟩ = some (.int .i64 ((pre.length : Nat) : Int)) ∧ W.frozen? ⟨w.heap.size, 0, none⟩ = false) ∧ Below w.heap.size w W)
    (fun _ _ _ => False)
    (OwnFrom.and (Own.from (fun s A B row hs hg hr => ⟨cell_kept hs.1 hg hr, (frozen_kept hs.1 hg hr).trans hs.2⟩) _) (ownFrom_below (Nat.le_refl _) (by omega)))
    (fun _ _ _ _ _ hs _ _ => hs)
    ⟨unhide C0, unhide HB0⟩
    (fun x => { tmps := #[.int .i64 n, undef, .int .i64 0, .pointer (some ⟨w.heap.size, 0, none⟩), .int .i64 n, .int .u64 ((zz n : Nat) : Int), .func (.func 90) #[] #[.pointer (some ⟨w.heap.size + 1, 0, none⟩)], bv x, undef, undef, undef], defers := [] }) ?assign ?body ?done ?stop
  case assign =>
    intro l x W K hK
    gi_wp2
    simpa using hK
  case body =>
    rintro l pre x W ⟨⟨hc, hf⟩, hB⟩ hN
    have hw1 : IntKind.i64.wrap (((pre.length : Nat) : Int) + 1) = ((pre.length : Nat) : Int) + 1 := by rw [IntKind.wrap_i64]; have := unhide HT; have hN : pre.length < (numB n).length := hN; omega
    gi_wp2
    exact ⟨KeepsOthers.setCell _ _ _, trivial, ⟨by rw [List.length_append]; exact World.cell?_setCell_same' _ _ _ (by rw [hc]; rfl), by rw [World.frozen?_setCell]; exact hf⟩, hB.setCell (p := ⟨w.heap.size, 0, none⟩) (Nat.le_refl _) _⟩
  case done =>
    rintro D ys W hD rfl ⟨⟨hc, _⟩, hB⟩ hK
    have HB := hide hB
    clear hB
    gi_wp2
    refine ⟨by simp, .inl ⟨_, _, rfl, run_takeDeferred hK, ?_⟩⟩
    refine ⟨_, results_tmp rfl _ _ _, ?_⟩
    exact ⟨rfl, (unhide HB).trans (belowK_b (w := w) (Nat.le_refl _) W D _ _ (by omega) hK rfl rfl)⟩
  case stop =>
    rintro D c pre W _ _ h _
    exact h.elim
end Go.Proofs.Yteggocgfaejmbaa

namespace Go.Proofs.Yteggocgfaejmbaa
open Go.RowKit Go.Lib

/-- Block g, of type t, holds C cells, the first of which are bs; it is new since w0. -/
structure Room (w0 : World) (t : TypeId) (g C : Nat) (bs : List UInt8) (W : World) : Prop where
  own : ∃ cur : Array Value, W.heap[g]? = some (.cells cur t (0, 0)) ∧ cur.size = C ∧ cur.toList.take bs.length = bs.map bv
  le : bs.length ≤ C
  cm : C ≤ maxLen
  new : w0.heap.size ≤ g
  bb : Below w0.heap.size w0 W
section
variable {w0 W W' : World} {t : TypeId} {g C : Nat} {bs : List UInt8}
theorem Room.to (h : Room w0 t g C bs W) (hb : Below w0.heap.size w0 W') (hk : W'.heap[g]? = W.heap[g]?) : Room w0 t g C bs W' := by
  obtain ⟨⟨cur, h1, h2, h3⟩, h4, h5, h6, _⟩ := h
  exact ⟨⟨cur, hk.trans h1, h2, h3⟩, h4, h5, h6, hb⟩
theorem Room.lt (h : Room w0 t g C bs W) : g < W.heap.size := by
  obtain ⟨cur, h1, _⟩ := h.own
  exact (Array.getElem?_eq_some_iff.1 h1).1
theorem Room.later (h : Room w0 t g C bs W) (hb : Below W.heap.size W W') : Room w0 t g C bs W' := h.to (h.bb.trans (hb.mono h.bb.size)) (hb.block g h.lt)
theorem Room.alloc (h : Room w0 t g C bs W) (o : Obj) : Room w0 t g C bs (W.alloc o) := h.later ((Below.refl _ W).alloc (Nat.le_refl _) _)
theorem Room.drewN (h : Room w0 t g C bs W) (n : Nat) : Room w0 t g C bs (W.drewN n) := h.to ⟨h.bb.os, h.bb.tape, h.bb.output, h.bb.size, h.bb.block⟩ rfl
theorem Room.drew (h : Room w0 t g C bs W) : Room w0 t g C bs W.drew := h.to h.bb.drew rfl
theorem Room.set (h : Room w0 t g C bs W) {p : Addr} (hp : p.block ≠ g) (hn : w0.heap.size ≤ p.block) (v : Value) : Room w0 t g C bs (W.setCell p v) := h.to (h.bb.setCell hn v) (Below.heap_setCell _ _ _ _ (fun e => hp e.symm))
/-- A row of our own has room. -/
theorem Room.of_own {cap n : Nat} (h : Own w0 (.slice (some ⟨g, 0, none⟩) n cap) bs W) (_ : bs.length = n) : Room w0 5 g cap bs W := by
  rcases h.own.2 with ⟨e, _⟩ | ⟨g', cap', cur, e, _, h1, h2, h3, h4, h5⟩
  · cases e
  · simp only [Value.slice.injEq, Option.some.injEq, Addr.mk.injEq, and_true] at e
    obtain ⟨rfl, _, rfl⟩ := e
    exact ⟨⟨cur, h1, by simpa using h4, by simpa using h5⟩, h2, h3, h.new g rfl, h.bb⟩
theorem Room.isOwn (h : Room w0 5 g C bs W) : Own w0 (.slice (some ⟨g, 0, none⟩) bs.length C) bs W := by
  obtain ⟨cur, h1, h2, h3⟩ := h.own
  exact ⟨⟨by simp, .inr ⟨g, C, cur, rfl, Nat.zero_le _, h1, h.le, h.cm, by simpa using h2, by simpa using h3⟩⟩, fun k hk => by simp [Value.ownBlock] at hk; subst hk; exact h.new, h.bb⟩
theorem Room.bytes (h : Room w0 t g C bs W) : Bytes W (.slice (some ⟨g, 0, none⟩) bs.length C) bs := by
  obtain ⟨cur, h1, h2, h3⟩ := h.own
  refine .inr ⟨⟨g, 0, none⟩, C, rfl, h.le, h.cm, fun j x hx => ?_⟩
  rw [Addr.add_mid, Nat.zero_add, cell_of_row _ _ _ _ _ _ h1]
  rw [← h3, List.getElem?_take] at hx
  split at hx
  · simpa using hx
  · cases hx

/-- append into the room. -/
theorem Room.append {P : Program} (h : Room w0 t g C bs W) {u : Value} {xs : List UInt8} (hu : Bytes W u xs) (hroom : bs.length + xs.length ≤ C) (tt ty e : TypeId) (i : TypeInfo) (ht : P.underlying tt = some (.slice e)) (hi : P.info? e = some i) (hs : i.size = 1) :
    ∃ W', (Builtin.append_ #[tt, tt] ty #[.slice (some ⟨g, 0, none⟩) bs.length C, u]).run P W = .ok (.slice (some ⟨g, 0, none⟩) (bs.length + xs.length) C) W' ∧ Room w0 t g C (bs ++ xs) W' ∧ W.grownBy W' (some g) := by
  obtain ⟨⟨cur, h1, h2, h3⟩, h4, h5, h6, hb⟩ := h
  rcases hu with ⟨rfl, rfl⟩ | ⟨ad, c, rfl, _, _, hr⟩
  · refine ⟨W, ?_, by rw [List.append_nil]; exact ⟨⟨cur, h1, h2, h3⟩, h4, h5, h6, hb⟩, World.grownBy.refl _ _⟩
    have hf : (Builtin.firstCells 1 0 (.slice none 0 0)).run P W = .ok #[] W := by simp [Builtin.firstCells, go_sem]
    simp [Builtin.append_, run_underlying ht, sizeOf, typeInfo, hi, hs, Builtin.lenOf, h4, hf, storeCells, Sem.run_pure]
  · have hn1 : (xs.map bv).length = xs.length * i.size := by simp [hs]
    have hf := run_firstCells_some (P := P) W i.size xs.length ad xs.length c (xs.map bv) hn1 hr
    have hst := run_storeCells_at P g (bs.length * i.size) t (xs.map bv) 0 cur W h1 (by simp [hs]; omega) (bv_one _)
    simp only [Nat.add_zero] at hst
    refine ⟨W.setRow g (cur.toList.take (bs.length * i.size) ++ xs.map bv ++ cur.toList.drop (bs.length * i.size + (xs.map bv).length)).toArray, ?_, ⟨⟨_, setRow_heap W g cur _ t _ h1, ?_, ?_⟩, by simpa using hroom, h5, h6, ?_⟩, ⟨rfl, rfl, rfl, by simp, fun k _ hk => setRow_other W g k _ (fun e => hk (by simp [e]))⟩⟩
    · simp [Builtin.append_, run_underlying ht, sizeOf, typeInfo, hi, Builtin.lenOf, hroom, hf, Addr.add_lit, hst]
    · simp only [List.size_toArray, List.length_append, List.length_take, List.length_drop, Array.length_toList, List.length_map, hs]
      omega
    · simp only [hs, Nat.mul_one, h3]
      rw [show (bs ++ xs).length = (bs.map bv ++ xs.map bv).length by simp, List.map_append]
      exact List.take_left
    · exact hb.trans ⟨rfl, rfl, rfl, by simp, fun k hk => setRow_other W g k _ (by omega)⟩
/-- append of a text into the room. -/
theorem Room.appendS {P : Program} (h : Room w0 t g C bs W) (s : List UInt8) (hroom : bs.length + s.length ≤ C) (tt u ty e : TypeId) (i : TypeInfo) (ht : P.underlying tt = some (.slice e)) (hu : P.underlying u = some .string) (hi : P.info? e = some i) (hs : i.size = 1) :
    ∃ W', (Builtin.append_ #[tt, u] ty #[.slice (some ⟨g, 0, none⟩) bs.length C, .string ⟨s.toArray⟩]).run P W = .ok (.slice (some ⟨g, 0, none⟩) (bs.length + s.length) C) W' ∧ Room w0 t g C (bs ++ s) W' ∧ W.grownBy W' (some g) := by
  obtain ⟨⟨cur, h1, h2, h3⟩, h4, h5, h6, hb⟩ := h
  have hsz : (⟨s.toArray⟩ : ByteArray).size = s.length := by simp [ByteArray.size]
  have hc : strCells ⟨s.toArray⟩ = s.map bv := by simp [strCells, bv]
  have hf := run_firstCells_string (P := P) W 1 ⟨s.toArray⟩
  have hst := run_storeCells_at P g bs.length t (s.map bv) 0 cur W h1 (by simp; omega) (bv_one _)
  simp only [Nat.add_zero] at hst
  rw [hc, hsz] at hf
  refine ⟨W.setRow g (cur.toList.take bs.length ++ s.map bv ++ cur.toList.drop (bs.length + (s.map bv).length)).toArray, ?_, ⟨⟨_, setRow_heap W g cur _ t _ h1, ?_, ?_⟩, by simpa using hroom, h5, h6, ?_⟩, ⟨rfl, rfl, rfl, by simp, fun k _ hk => setRow_other W g k _ (fun e => hk (by simp [e]))⟩⟩
  · simp [Builtin.append_, run_underlying ht, run_underlying hu, sizeOf, typeInfo, hi, hs, Builtin.lenOf, hroom, hf, hsz, Addr.add_lit, hst]
  · simp only [List.size_toArray, List.length_append, List.length_take, List.length_drop, Array.length_toList, List.length_map]
    omega
  · rw [h3, show (bs ++ s).length = (bs.map bv ++ s.map bv).length by simp, List.map_append]
    exact List.take_left
  · exact hb.trans ⟨rfl, rfl, rfl, by simp, fun k hk => setRow_other W g k _ (by omega)⟩
end

/-- append with its run laid, at the walk's list of operations inside a fence. -/
theorem wpListIn_append_run {F : Fence} {n : Nat} {P : Program} {w W' : World} {ops : Array Oper} {rest : List Oper} {o : Oper} {a : Act} {Q : Exit → Act → World → Prop}
    (hg : o.guard = none) (s x : Operand) (t u : TypeId) (hop : o.op = Op.call { callee := Callee.builtin Builtin.append, args := #[s, x], argTypes := #[t, u] }) (sv xv v : Value) (hs : a.eval s = sv) (hx : a.eval x = xv)
    (hrun : (Builtin.append_ #[t, u] o.type #[sv, xv]).run P w = .ok v W') (hK : wpListIn F n P ops Q rest (a.put o.dst v) W') : wpListIn F n P ops Q (o :: rest) a w := by
  refine wpListIn_plain hg fun K hK' => ?_
  unfold Oper.wpIn
  refine ⟨?_, ?_⟩
  · simp [Oper.about, hop, resolve, Target.leads, Sem.run_pure]
  · rw [Oper.semAt_plain F _ _ (by rw [hop]; intro c hc'; cases hc')]
    simp [execOp, hop, resolve, invoke, builtin, hs, hx, hrun, Result.andThen]
    exact hK' _ _ hK
theorem wpList_append_run {P : Program} {w W' : World} {ops : Array Oper} {rest : List Oper} {o : Oper} {a : Act} {Q : Exit → Act → World → Prop}
    (hg : o.guard = none) (s x : Operand) (t u : TypeId) (hop : o.op = Op.call { callee := Callee.builtin Builtin.append, args := #[s, x], argTypes := #[t, u] }) (sv xv v : Value) (hs : a.eval s = sv) (hx : a.eval x = xv)
    (hrun : (Builtin.append_ #[t, u] o.type #[sv, xv]).run P w = .ok v W') (hK : wpList P ops Q rest (a.put o.dst v) W') : wpList P ops Q (o :: rest) a w := by
  refine wpList_plain hg fun K hK' => ?_
  unfold Oper.wp
  simp [execOp, hop, resolve, invoke, builtin, hs, hx, hrun, Result.andThen]
  exact hK' _ _ hK

/-- make of no bytes, with room. -/
theorem wMakeRoom (n : Nat) (hn : n ≤ 1073741824) : ∃ Z : Array Value, Z.size = n ∧ ∀ W : World, (Instr.makeSlice 23 (.int .i64 0) (.int .i64 (n : Int))).run Try.prog W = .ok (.slice (some ⟨W.heap.size, 0, none⟩) 0 n) (W.alloc (.cells Z 5)) := by
  obtain ⟨i, hi, hz0, hz1, hz2⟩ := infoByte
  refine ⟨madeCells (Value.int .u8 0).cells (Int.toNat n * i.size), ?_, fun W => ?_⟩
  · rw [size_madeCells, hz1]; simp
  · have := run_make (P := Try.prog) W 23 5 i (.int .u8 0) Try.underlying23 hi hz0 .i64 .i64 0 n (by omega) (by omega) (by rw [hz2]; omega) (by omega)
    simpa using this
theorem Room.made (w : World) {n : Nat} {Z : Array Value} (hZ : Z.size = n) (hn : n ≤ 1073741824) : Room w 5 w.heap.size n [] (w.alloc (.cells Z 5)) :=
  ⟨⟨Z, heap_alloc_new w _, hZ, by simp⟩, Nat.zero_le _, by unfold maxLen; omega, Nat.le_refl _, (Below.refl _ w).alloc (Nat.le_refl _) _⟩
end Go.Proofs.Yteggocgfaejmbaa
