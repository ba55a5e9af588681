/- A copy of which one item is changed: what it reads as. No statement of the seat is proved here. -/
import Derived.Test.YteggocgfaejmbaaBase10
namespace Go.Proofs.Yteggocgfaejmbaa
open Go.RowKit

theorem CopF.later {w : World} {B : Nat → Prop} {l : List FI} {g cap j : Nat} {xs : List Value} {A : Nat → Option Addr × Nat} {W W' : World} (h : CopF w B l g cap xs A j W) (hb : Below W.heap.size W W') : CopF w B l g cap xs A j W' :=
  ⟨h.below.trans (hb.mono h.below.size), h.gn, ownsF_keeps h.row fun k hk => hb.block k (h.row.lt k hk).2, h.is, fun i hi hij => (h.done i hi hij).later hb, h.rest, h.apart⟩
theorem cell_ne {W : World} {g p q : Nat} {v u : Value} (h : W.cell? ⟨g, q, none⟩ = some u) (hn : p ≠ q) : (W.setCell ⟨g, p, none⟩ v).cell? ⟨g, q, none⟩ = some u := by
  rw [World.cell?_setCell_other W _ _ _ (by simp only [ne_eq, Addr.mk.injEq, true_and, and_true]; exact hn)]
  exact h
/-- A copy of which one item was changed. -/
theorem CopF.changed {w : World} {B : Nat → Prop} {l : List FI} {g cap : Nat} {xs : List Value} {A : Nat → Option Addr × Nat} {W : World} (h : CopF w B l g cap xs A l.length W) {W' : World} {i : Nat} {x : FI} {a : Option Addr} {c : Nat}
    (hg : ∀ p, p / 6 ≠ i → W'.cell? ⟨g, p, none⟩ = W.cell? ⟨g, p, none⟩) (hx : x.Cells W' g (i * 6) a c) (hf : x.Fits) (hl : x.after.length ≤ c) (hc : c ≤ maxLen) (hS : StrsAt (fun _ => True) W' a x.after)
    (ho : ∀ i', i' < l.length → i' ≠ i → ∀ b, (A i').1 = some b → W'.heap[b.block]? = W.heap[b.block]?) : FragAt (fun _ => True) W' (l.set i x) (.slice (some ⟨g, 0, none⟩) l.length cap) := by
  obtain ⟨cur, hgc, hcs, hlc, hcm, htk⟩ := h.blk
  refine ⟨_, cap, by rw [List.length_set], by rw [List.length_set]; exact hlc, hcm, fun j hj => ?_⟩
  have hj' : j < l.length := by rwa [List.length_set] at hj
  by_cases e : j = i
  · subst e
    rw [List.getElem_set_self]
    exact ⟨g, 0, a, c, rfl, trivial, by rw [Nat.zero_add]; exact hx, hf, hl, hc, hS⟩
  · rw [List.getElem_set_ne (fun e' => e e'.symm)]
    obtain ⟨hcl, _⟩ := h.cells hj'
    obtain ⟨a', c', hv, h1, h2, h3⟩ := (h.done j hj' hj').at
    simp only [Value.slice.injEq, true_and] at hv
    obtain ⟨hva, hvc⟩ := hv
    refine ⟨g, 0, (A j).1, (A j).2, rfl, trivial, ?_, (h.is j hj').2, by rw [hvc]; exact h1, by rw [hvc]; exact h2, ?_⟩
    · rw [Nat.zero_add]
      exact ⟨(hg _ (by omega)).trans hcl.c0, (hg _ (by omega)).trans hcl.c1, (hg _ (by omega)).trans hcl.c2, (hg _ (by omega)).trans hcl.c3, (hg _ (by omega)).trans hcl.c4, (hg _ (by omega)).trans hcl.c5⟩
    · rw [hva]
      refine h3.kept (fun k hk _ => ?_) (fun _ _ _ => trivial)
      have hk2 := hk.2
      cases hA : (A j).1 with
      | none => rw [hA] at hk2; cases hk2
      | some b =>
        rw [hA] at hk2
        have : b.block = k := by simpa [Value.ownBlock] using hk2
        rw [← this]
        exact ho j hj' e b hA
/-- One cell of an item is stored anew, but its names'. -/
theorem CopF.poke {w : World} {B : Nat → Prop} {l : List FI} {g cap : Nat} {xs : List Value} {A : Nat → Option Addr × Nat} {W : World} (h : CopF w B l g cap xs A l.length W) {i : Nat} (hi : i < l.length) {x : FI} {p : Nat} {v : Value} (hp : p / 6 = i)
    (hx : x.Cells (W.setCell ⟨g, p, none⟩ v) g (i * 6) (A i).1 (A i).2) (hf : x.Fits) (ha : x.after = (l[i]'hi).after) : FragAt (fun _ => True) (W.setCell ⟨g, p, none⟩ v) (l.set i x) (.slice (some ⟨g, 0, none⟩) l.length cap) := by
  obtain ⟨a', c', hv, h1, h2, h3⟩ := (h.done i hi hi).at
  simp only [Value.slice.injEq, true_and] at hv
  obtain ⟨hva, hvc⟩ := hv
  have hnew : ∀ j (hj : j < l.length), ∀ b, (A j).1 = some b → b.block ≠ g := fun j hj b hb e => by
    have := (h.done j hj hj).new b.block (by rw [hb]; rfl)
    omega
  refine h.changed (fun q hq => World.cell?_setCell_other W _ _ _ (by simp only [ne_eq, Addr.mk.injEq, true_and, and_true]; rintro rfl; exact hq hp)) hx hf (by rw [ha, hvc]; exact h1) (by rw [hvc]; exact h2) ?_ (fun j hj _ b hb => Below.heap_setCell _ _ _ _ (hnew j hj b hb))
  rw [ha, hva]
  refine h3.kept (fun k hk _ => Below.heap_setCell _ _ _ _ (fun e => ?_)) (fun _ _ _ => trivial)
  have := hk.1.1
  have e' : k = g := e
  omega
/-- The cells behind the store of one of them. -/
theorem cells_set0 {W : World} {g o : Nat} {x : FI} {a : Option Addr} {c : Nat} (h : x.Cells W g o a c) (s : List UInt8) : ({ x with name := s } : FI).Cells (W.setCell ⟨g, o, none⟩ (.string ⟨s.toArray⟩)) g o a c :=
  ⟨World.cell?_setCell_same _ _ _ h.c0, cell_ne h.c1 (by omega), cell_ne h.c2 (by omega), cell_ne h.c3 (by omega), cell_ne h.c4 (by omega), cell_ne h.c5 (by omega)⟩
theorem cells_set1 {W : World} {g o : Nat} {x : FI} {a : Option Addr} {c : Nat} (h : x.Cells W g o a c) (k : Nat) : ({ x with k := k } : FI).Cells (W.setCell ⟨g, o + 1, none⟩ (.int .u8 ((k : Nat) : Int))) g o a c :=
  ⟨cell_ne h.c0 (by omega), World.cell?_setCell_same _ _ _ h.c1, cell_ne h.c2 (by omega), cell_ne h.c3 (by omega), cell_ne h.c4 (by omega), cell_ne h.c5 (by omega)⟩
theorem cells_set2 {W : World} {g o : Nat} {x : FI} {a a' : Option Addr} {c c' : Nat} (h : x.Cells W g o a c) (q : List (List UInt8)) : ({ x with after := q } : FI).Cells (W.setCell ⟨g, o + 2, none⟩ (.slice a' q.length c')) g o a' c' :=
  ⟨cell_ne h.c0 (by omega), cell_ne h.c1 (by omega), World.cell?_setCell_same _ _ _ h.c2, cell_ne h.c3 (by omega), cell_ne h.c4 (by omega), cell_ne h.c5 (by omega)⟩
theorem cells_set3 {W : World} {g o : Nat} {x : FI} {a : Option Addr} {c : Nat} (h : x.Cells W g o a c) (s : List UInt8) : ({ x with over := s } : FI).Cells (W.setCell ⟨g, o + 3, none⟩ (.string ⟨s.toArray⟩)) g o a c :=
  ⟨cell_ne h.c0 (by omega), cell_ne h.c1 (by omega), cell_ne h.c2 (by omega), World.cell?_setCell_same _ _ _ h.c3, cell_ne h.c4 (by omega), cell_ne h.c5 (by omega)⟩
theorem cells_set4 {W : World} {g o : Nat} {x : FI} {a : Option Addr} {c : Nat} (h : x.Cells W g o a c) (n : Int) : ({ x with width := n } : FI).Cells (W.setCell ⟨g, o + 4, none⟩ (.int .i64 n)) g o a c :=
  ⟨cell_ne h.c0 (by omega), cell_ne h.c1 (by omega), cell_ne h.c2 (by omega), cell_ne h.c3 (by omega), World.cell?_setCell_same _ _ _ h.c4, cell_ne h.c5 (by omega)⟩
theorem cells_set5 {W : World} {g o : Nat} {x : FI} {a : Option Addr} {c : Nat} (h : x.Cells W g o a c) (n : Int) : ({ x with quota := n } : FI).Cells (W.setCell ⟨g, o + 5, none⟩ (.int .i64 n)) g o a c :=
  ⟨cell_ne h.c0 (by omega), cell_ne h.c1 (by omega), cell_ne h.c2 (by omega), cell_ne h.c3 (by omega), cell_ne h.c4 (by omega), World.cell?_setCell_same _ _ _ h.c5⟩
/-- A list of which one item is another. -/
theorem set_ne_self {α : Type} {l : List α} {i : Nat} (hi : i < l.length) {x : α} (h : x ≠ l[i]'hi) : l.set i x ≠ l := fun e => by
  have h1 : (l.set i x)[i]? = l[i]? := by rw [e]
  rw [List.getElem?_set_self hi, List.getElem?_eq_getElem hi] at h1
  exact h (Option.some.inj h1)

/-- One name is appended to an item's names. -/
theorem CopF.more {w : World} {B : Nat → Prop} {l : List FI} {g cap : Nat} {xs : List Value} {A : Nat → Option Addr × Nat} {W : World} (h : CopF w B l g cap xs A l.length W) {i : Nat} (hi : i < l.length) (hle : (l[i]'hi).after.length ≤ 1000) {s : List UInt8} (hs : s.length ≤ maxLen) {s0 : Nat} {t0 : TypeId} (hs0 : W.heap[s0]? = some (.cells #[.string ⟨s.toArray⟩] t0 (0, 0))) (ty : TypeId) :
    ∃ (ra : Option Addr) (rc : Nat) (W1 : World), (Builtin.append_ #[45, 45] ty #[.slice (A i).1 (l[i]'hi).after.length (A i).2, .slice (some ⟨s0, 0, none⟩) 1 1]).run Try.prog W = .ok (.slice ra ((l[i]'hi).after.length + 1) rc) W1 ∧
      W.grownBy W1 (Value.slice (A i).1 (l[i]'hi).after.length (A i).2).ownBlock ∧ (∃ u, W1.cell? ⟨g, i * 6 + 2, none⟩ = some u) ∧ W1.frozen? ⟨g, i * 6 + 2, none⟩ = false ∧
      FragAt (fun _ => True) (W1.setCell ⟨g, i * 6 + 2, none⟩ (.slice ra ((l[i]'hi).after.length + 1) rc)) (l.set i { (l[i]'hi) with after := (l[i]'hi).after ++ [s] }) (.slice (some ⟨g, 0, none⟩) l.length cap) := by
  have hD := h.done i hi hi
  have hm : StrsAt (fun _ => True) W (some ⟨s0, 0, none⟩) [s] := fun j hj => by
    obtain rfl : j = 0 := by simp at hj; omega
    exact ⟨s0, 0, rfl, trivial, cell_of_row _ _ 0 _ _ _ hs0, hs⟩
  have hgW : g < W.heap.size := (h.row.lt g rfl).2
  obtain ⟨r', W1, hrun, hS, r2, r3⟩ := hD.append (by omega) hm (Nat.le_refl 1) (fun e => by cases e) (by simp; omega) ty
  have hgo : ∀ j (hj : j < l.length), ∀ b, (A j).1 = some b → b.block ≠ g := fun j hj b hb e => by
    have := (h.done j hj hj).new b.block (by rw [hb]; rfl)
    omega
  have hg1 : W1.heap[g]? = W.heap[g]? := r2.block g hgW (fun e => by
    cases hA : (A i).1 with
    | none => rw [hA] at e; cases e
    | some b => rw [hA] at e; exact hgo i hi b hA (by simpa [Value.ownBlock] using e.symm))
  obtain ⟨hcl, hfz⟩ := h.cells hi
  have hcl1 := hcl.kept hg1
  obtain ⟨ra, rc, hr', h1, h2, h3⟩ := hS.at
  subst hr'
  have hlen : ((l[i]'hi).after ++ [s]).length = (l[i]'hi).after.length + 1 := by simp
  rw [hlen] at hrun h1
  have hset : ∀ k, k ≠ g → (W1.setCell ⟨g, i * 6 + 2, none⟩ (.slice ra ((l[i]'hi).after.length + 1) rc)).heap[k]? = W1.heap[k]? := fun k hk => Below.heap_setCell _ _ _ _ (fun e => hk e)
  refine ⟨ra, rc, W1, hrun, r2, ⟨_, hcl1.c2⟩, (World.frozen?_of_block (a := ⟨g, i * 6 + 2, none⟩) hg1).trans (hfz _), ?_⟩
  have hx := cells_set2 (a' := ra) (c' := rc) hcl1 ((l[i]'hi).after ++ [s])
  rw [hlen] at hx
  obtain ⟨f1, f2, f3, f4, f5⟩ := (h.is i hi).2
  refine h.changed (fun p hp => ?_) hx ⟨f1, f2, f3, f4, f5⟩ (by show ((l[i]'hi).after ++ [s]).length ≤ _; rw [hlen]; exact h1) h2 ?_ (fun j hj hji b hb => ?_)
  · rw [World.cell?_setCell_other W1 _ _ _ (by simp only [ne_eq, Addr.mk.injEq, true_and, and_true]; omega)]
    exact World.cell?_of_block (a := ⟨g, p, none⟩) hg1
  · refine h3.kept (fun k hk _ => hset k (fun e => ?_)) (fun _ _ _ => trivial)
    have := hk.1.1
    omega
  · rw [hset _ (hgo j hj b hb)]
    have hlt := (h.done j hj hj).lt (k := b.block) (by rw [hb]; rfl)
    refine r2.block _ hlt (fun e => ?_)
    cases hA : (A i).1 with
    | none => rw [hA] at e; cases e
    | some b2 =>
      rw [hA] at e
      have e2 : b.block = b2.block := by simpa [Value.ownBlock] using e
      rcases Nat.lt_or_gt_of_ne hji with hlt2 | hlt2
      · exact h.apart j i hlt2 hi hi b b2 hb hA e2
      · exact h.apart i j hlt2 hj hj b2 b hA hb e2.symm
/-- The first of an item's names is another. -/
theorem CopF.first {w : World} {B : Nat → Prop} {l : List FI} {g cap : Nat} {xs : List Value} {A : Nat → Option Addr × Nat} {W : World} (h : CopF w B l g cap xs A l.length W) {i : Nat} (hi : i < l.length) (hne : 0 < (l[i]'hi).after.length) :
    ∃ b, (A i).1 = some ⟨b, 0, none⟩ ∧ g < b ∧ b < W.heap.size ∧ W.cell? ⟨b, 0, none⟩ = some (.string ⟨((l[i]'hi).after[0]'hne).toArray⟩) ∧ W.frozen? ⟨b, 0, none⟩ = false ∧ ∀ s : List UInt8, s.length ≤ maxLen →
      FragAt (fun _ => True) (W.setCell ⟨b, 0, none⟩ (.string ⟨s.toArray⟩)) (l.set i { (l[i]'hi) with after := (l[i]'hi).after.set 0 s }) (.slice (some ⟨g, 0, none⟩) l.length cap) := by
  have hD := h.done i hi hi
  rcases hD.row.2 with ⟨_, hz⟩ | ⟨b, cap', cur, hv, _, hb, hnc, hcm, _⟩
  · omega
  simp only [Value.slice.injEq, true_and] at hv
  obtain ⟨hva, hvc⟩ := hv
  obtain ⟨a', c', hv2, h1, h2, h3⟩ := hD.at
  simp only [Value.slice.injEq, true_and] at hv2
  obtain ⟨hva2, hvc2⟩ := hv2
  have hgb := hD.new b (by rw [hva]; rfl)
  have hcell : ∀ j (hj : j < (l[i]'hi).after.length), W.cell? ⟨b, j, none⟩ = some (.string ⟨((l[i]'hi).after[j]'hj).toArray⟩) ∧ ((l[i]'hi).after[j]'hj).length ≤ maxLen := fun j hj => by
    obtain ⟨b2, o2, e, _, hc, hl⟩ := h3 j hj
    rw [← hva2, hva] at e
    simp only [Option.some.injEq, Addr.mk.injEq, and_true] at e
    obtain ⟨rfl, rfl⟩ := e
    rw [Nat.zero_add] at hc
    exact ⟨hc, hl⟩
  obtain ⟨hcl, hfz⟩ := h.cells hi
  obtain ⟨f1, f2, f3, f4, f5⟩ := (h.is i hi).2
  refine ⟨b, hva, by omega, hD.lt (by rw [hva]; rfl), (hcell 0 hne).1, frozen_of_row _ _ _ _ _ hb, fun s hs => ?_⟩
  have hset : ∀ k, k ≠ b → (W.setCell ⟨b, 0, none⟩ (.string ⟨s.toArray⟩)).heap[k]? = W.heap[k]? := fun k hk => Below.heap_setCell _ _ _ _ (fun e => hk e)
  refine h.changed (a := (A i).1) (c := (A i).2) (fun p _ => World.cell?_of_block (a := ⟨g, p, none⟩) (hset g (by omega))) ?_ ⟨f1, f2, f3, f4, f5⟩ (by show ((l[i]'hi).after.set 0 s).length ≤ _; rw [List.length_set, hvc2]; exact h1) (by rw [hvc2]; exact h2) (fun j hj => ?_) (fun j hj hji b2 hb2 => hset _ (fun e => ?_))
  · have hk := hcl.kept (hset g (by omega))
    exact ⟨hk.c0, hk.c1, by rw [hk.c2]; simp only [List.length_set], hk.c3, hk.c4, hk.c5⟩
  · have hj' : j < (l[i]'hi).after.length := by have : j < ((l[i]'hi).after.set 0 s).length := hj; rwa [List.length_set] at this
    refine ⟨b, 0, hva, trivial, ?_⟩
    rw [Nat.zero_add]
    show (W.setCell _ _).cell? ⟨b, j, none⟩ = some (.string ⟨(((l[i]'hi).after.set 0 s)[j]'hj).toArray⟩) ∧ (((l[i]'hi).after.set 0 s)[j]'hj).length ≤ maxLen
    by_cases e : j = 0
    · subst e
      rw [List.getElem_set_self]
      exact ⟨World.cell?_setCell_same _ _ _ (hcell 0 hne).1, hs⟩
    · rw [List.getElem_set_ne (fun e' => e e'.symm)]
      exact ⟨cell_ne (hcell j hj').1 (by omega), (hcell j hj').2⟩
  · rcases Nat.lt_or_gt_of_ne hji with hlt2 | hlt2
    · exact h.apart j i hlt2 hi hi b2 _ hb2 hva e
    · exact h.apart i j hlt2 hj hj _ b2 hva hb2 e.symm
end Go.Proofs.Yteggocgfaejmbaa
