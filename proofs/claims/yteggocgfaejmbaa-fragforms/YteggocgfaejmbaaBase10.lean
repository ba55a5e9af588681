/- FragCopyI, GenOnly, QuietB, GenFrame, FragFrame: our own definitions and contracts; no statement of the seat is proved here. -/
import Derived.Test.YteggocgfaejmbaaBase04
import Derived.Test.YteggocgfaejmbaaBase02
import Derived.Test.YteggocgfaejmbaaBase00
import Derived.Test.YteggocgfaejmbaaRows
import Derived.ProofKit
import Derived.OpenShut
import Derived.Test.YteggocgfaejmbaaBase01
namespace Go.Proofs.Yteggocgfaejmbaa
open Go.RowKit

theorem own_zeroF (w : World) (e : TypeId) (S : Nat) : (w.alloc (.cells #[] e)).ownsRow 0 e S (.slice (some ⟨w.heap.size, 0, none⟩) 0 0) 0 [] :=
  ⟨by simp, .inr ⟨w.heap.size, 0, #[], rfl, Nat.zero_le _, heap_alloc_new w _, Nat.le_refl _, by decide, by simp, by simp⟩⟩

set_option maxRecDepth 100000 in
set_option maxHeartbeats 1000000 in
theorem cloneStr_any (l : List (List UInt8)) (B : Nat → Prop) (n c : Nat) (a : Option Addr) (w : World) (hn : n = l.length) (hl : n ≤ 1000000) (hc : n ≤ c) (hS : StrsAt B w a l) : Calls Try.prog 42 #[.slice a n c] w fun e W => ∃ (ra : Option Addr) (rc : Nat), e = .returned (.slice ra n rc) ∧ StrsO w.heap.size W (.slice ra n rc) l ∧ Below w.heap.size w W := by
  cases a with
  | none =>
    have h0 : l = [] := by
      cases l with
      | nil => rfl
      | cons x q => obtain ⟨b, o, h, _⟩ := hS 0 (by simp); cases h
    subst h0
    have hn0 : n = 0 := hn
    subst hn0
    have HN := hide (StrsO.nil w.heap.size w)
    clear hS hc hn hl
    have hq : ∀ W : World, (binOp .eql 45 (.slice none 0 c) (.slice none 0 0)).run Try.prog W = .ok (.bool true) W := fun W => Lib.run_eql_slice_nil W 45 9 none 0 c 0 0 Try.underlying45
    go_enter Try.func42, Try.ntmps42
    go_wp2_with fail
    go_ret
    exact ⟨none, 0, rfl, unhide HN, Below.refl _ _⟩
  | some ad =>
    obtain ⟨W1, hW1⟩ : ∃ W1, W1 = w.alloc (.cells #[] 9) := ⟨_, rfl⟩
    have hb1 : Below w.heap.size w W1 := by rw [hW1]; exact (Below.refl _ w).alloc (Nat.le_refl _) _
    have h1 : StrsO w.heap.size W1 (.slice (some ⟨w.heap.size, 0, none⟩) 0 0) [] := ⟨by rw [hW1]; exact own_zeroF w _ 1, fun k hk => by cases hk; exact Nat.le_refl _, fun s hs => by cases hs⟩
    obtain ⟨r', W7, hrun, hv, hg7, hn7⟩ := h1.append (m := l) (c := c) hb1.size (hS.kept (fun k _ hk => hb1.block k hk) (fun _ h _ => h)) (by omega) (fun e => by cases e) (by simp; omega) 45
    obtain ⟨ra, rc, rfl, _⟩ := hv.at
    rw [List.nil_append, ← hn] at hv hrun
    have HB7 : Hid (Below w.heap.size w W7) := hb1.grown hg7 hb1.size (fun k hk => h1.new k hk)
    have HV := hide hv
    rw [hW1] at hrun
    have HRUN := hide hrun
    clear hS hc hn hl hb1 h1 hv hg7 hn7 hrun hW1
    have hq : ∀ W : World, (binOp .eql 45 (.slice (some ad) n c) (.slice none 0 0)).run Try.prog W = .ok (.bool false) W := fun W => Lib.run_eql_slice_nil W 45 9 (some ad) n c 0 0 Try.underlying45
    go_enter Try.func42, Try.ntmps42
    go_wp2_with (at_builtin; refine Lib.wpList_append_run _ rfl _ _ 45 45 rfl _ _ rfl rfl _ _ (unhide HRUN) ?_)
    go_wp2_with fail
    go_ret
    exact ⟨ra, rc, rfl, unhide HV, unhide HB7⟩

set_option maxRecDepth 100000 in
set_option maxHeartbeats 1000000 in
theorem cloneItem_any (l : List FI) (B : Nat → Prop) (n c : Nat) (a : Option Addr) (w : World) (hn : n = l.length) (hl : n ≤ 1000000) (hc : n ≤ c) (hS : ItemsAt B w a l) : Calls Try.prog 41 #[.slice a n c] w fun e W => ∃ (ra : Option Addr) (rc : Nat) (xs : List Value), e = .returned (.slice ra n rc) ∧ W.ownsRow 0 47 6 (.slice ra n rc) n xs ∧ (∀ k, (Value.slice ra n rc).ownBlock = some k → w.heap.size ≤ k) ∧ (∀ i (h : i < l.length), (l[i]'h).At B w (aggF xs i)) ∧ Below w.heap.size w W := by
  cases a with
  | none =>
    have h0 : l = [] := by
      cases l with
      | nil => rfl
      | cons x q => obtain ⟨b, o, _, _, h, _⟩ := hS 0 (by simp); cases h
    subst h0
    have hn0 : n = 0 := hn
    subst hn0
    clear hS hc hn hl
    have hq : ∀ W : World, (binOp .eql 22 (.slice none 0 c) (.slice none 0 0)).run Try.prog W = .ok (.bool true) W := fun W => Lib.run_eql_slice_nil W 22 47 none 0 c 0 0 Try.underlying22
    go_enter Try.func41, Try.ntmps41
    go_wp2_with fail
    go_ret
    exact ⟨none, 0, [], rfl, World.ownsRow_nil _ 0 _ 6, fun k hk => (by cases hk), fun i h => absurd h (Nat.not_lt_zero i), Below.refl _ _⟩
  | some ad =>
    obtain ⟨W1, hW1⟩ : ∃ W1, W1 = w.alloc (.cells #[] 47) := ⟨_, rfl⟩
    have hb1 : Below w.heap.size w W1 := by rw [hW1]; exact (Below.refl _ w).alloc (Nat.le_refl _) _
    obtain ⟨i, z, hi, hz, hs, hb, hzs⟩ := infoItem
    obtain ⟨cs, g1, g2, g3, g4⟩ := items_cells hS
    obtain ⟨r', W7, hrun, r1, r2, r3⟩ := run_append_rowF (P := Try.prog) W1 22 22 47 i z 6 80 Try.underlying22 hi hz hs hb hzs (by decide) (.slice (some ⟨w.heap.size, 0, none⟩) 0 0) 0 [] (by rw [hW1]; exact own_zeroF w _ 6) (some ad) n c cs (by rw [hn]; exact g1) (fun ad' had j u hu => by
      have h := g2 ad' had j u hu
      exact (hb1.cell (World.block_lt_of_cell? _ _ h)).trans h) (fun e => by cases e) g3 (by unfold maxLen; omega) (by omega)
    rw [Nat.zero_add, List.nil_append] at r1
    obtain ⟨ra, rc, rfl, _⟩ := ownsF_form r1
    have HB7 : Hid (Below w.heap.size w W7) := hb1.grown r2 hb1.size (fun k hk => by cases hk; exact Nat.le_refl _)
    have HNW : Hid (∀ k, (Value.slice ra n rc).ownBlock = some k → w.heap.size ≤ k) := fun k hk => by
      rcases r3 with e | ⟨k', e, hle⟩
      · rw [e] at hk; cases hk; exact Nat.le_refl _
      · rw [e] at hk; cases hk; have := hb1.size; omega
    have HR1 := hide r1
    have HG4 := hide g4
    rw [hW1] at hrun
    have HRUN := hide hrun
    clear hS hc hn hl hb1 hi hz hs hb hzs g1 g2 g3 g4 r1 r2 r3 hrun hW1
    have hq : ∀ W : World, (binOp .eql 22 (.slice (some ad) n c) (.slice none 0 0)).run Try.prog W = .ok (.bool false) W := fun W => Lib.run_eql_slice_nil W 22 47 (some ad) n c 0 0 Try.underlying22
    go_enter Try.func41, Try.ntmps41
    go_wp2_with (at_builtin; refine Lib.wpList_append_run _ rfl _ _ 22 22 rfl _ _ rfl rfl _ _ (unhide HRUN) ?_)
    go_wp2_with fail
    go_ret
    exact ⟨ra, rc, cs, rfl, unhide HR1, unhide HNW, unhide HG4, unhide HB7⟩

/-- A copy under way: of the first j items the names lie in rows of their own; of the others they are the old ones. -/
structure CopF (w : World) (B : Nat → Prop) (l : List FI) (g cap : Nat) (xs : List Value) (A : Nat → Option Addr × Nat) (j : Nat) (W : World) : Prop where
  below : Below w.heap.size w W
  gn : w.heap.size ≤ g
  row : W.ownsRow 0 47 6 (.slice (some ⟨g, 0, none⟩) l.length cap) l.length xs
  is : ∀ i (h : i < l.length), aggF xs i = (l[i]'h).agg (A i).1 (A i).2 ∧ (l[i]'h).Fits
  done : ∀ i (h : i < l.length), i < j → StrsO (g + 1) W (.slice (A i).1 (l[i]'h).after.length (A i).2) (l[i]'h).after
  rest : ∀ i (h : i < l.length), j ≤ i → (l[i]'h).after.length ≤ (A i).2 ∧ (A i).2 ≤ maxLen ∧ StrsAt B w (A i).1 (l[i]'h).after
  apart : ∀ i i', i < i' → i' < j → i' < l.length → ∀ a b, (A i).1 = some a → (A i').1 = some b → a.block ≠ b.block
theorem CopF.blk {w : World} {B : Nat → Prop} {l : List FI} {g cap j : Nat} {xs : List Value} {A : Nat → Option Addr × Nat} {W : World} (h : CopF w B l g cap xs A j W) : ∃ cur : Array Value, W.heap[g]? = some (.cells cur 47 (0, 0)) ∧ cur.size = cap * 6 ∧ l.length ≤ cap ∧ cap ≤ maxLen ∧ cur.toList.take (l.length * 6) = xs := by
  rcases h.row.2 with ⟨hv, _⟩ | ⟨g', cap', cur, hv, _, hg, h1, h2, h3, h4⟩
  · simp at hv
  · simp only [Value.slice.injEq, Option.some.injEq, Addr.mk.injEq, and_true, true_and] at hv
    obtain ⟨rfl, rfl⟩ := hv
    exact ⟨cur, hg, h3, h1, h2, h4⟩
/-- The cells of the i-th item. -/
theorem CopF.cells {w : World} {B : Nat → Prop} {l : List FI} {g cap j : Nat} {xs : List Value} {A : Nat → Option Addr × Nat} {W : World} (h : CopF w B l g cap xs A j W) {i : Nat} (hi : i < l.length) : (l[i]'hi).Cells W g (i * 6) (A i).1 (A i).2 ∧ ∀ o, W.frozen? ⟨g, o, none⟩ = false := by
  obtain ⟨cur, hg, hcs, hlc, hcm, htk⟩ := h.blk
  have hxl : xs.length = l.length * 6 := h.row.1
  have hcell : ∀ p, p < l.length * 6 → W.cell? ⟨g, p, none⟩ = some (xs.getD p undef) := fun p hp => by
    have h5 := h.row.cells (g := g) rfl p (xs.getD p undef) (by rw [List.getD_eq_getElem?_getD, List.getElem?_eq_getElem (by omega)]; rfl)
    rw [Addr.add_mid, Nat.zero_add] at h5
    exact h5
  obtain ⟨hu, _⟩ := h.is i hi
  unfold aggF FI.agg at hu
  simp only [Value.agg.injEq] at hu
  replace hu := congrArg Array.toList hu
  simp only [List.cons.injEq, and_true] at hu
  obtain ⟨e0, e1, e2, e3, e4, e5⟩ := hu
  exact ⟨⟨by rw [hcell _ (by omega), e0], by rw [hcell _ (by omega), e1], by rw [hcell _ (by omega), e2], by rw [hcell _ (by omega), e3], by rw [hcell _ (by omega), e4], by rw [hcell _ (by omega), e5]⟩, fun o => frozen_of_row _ _ _ _ _ hg⟩
theorem aggF_set {xs : List Value} {p i : Nat} {v : Value} (h : p / 6 ≠ i) : aggF (xs.set p v) i = aggF xs i := by
  have ge : ∀ q, q / 6 = i → (xs.set p v).getD q undef = xs.getD q undef := fun q hq => by
    rw [List.getD_eq_getElem?_getD, List.getD_eq_getElem?_getD, List.getElem?_set_ne (by rintro rfl; exact h hq)]
  unfold aggF
  rw [ge _ (by omega), ge _ (by omega), ge _ (by omega), ge _ (by omega), ge _ (by omega), ge _ (by omega)]
theorem aggF_set2 {xs : List Value} {i : Nat} {v : Value} (h : i * 6 + 2 < xs.length) : aggF (xs.set (i * 6 + 2) v) i = .agg #[xs.getD (i * 6) undef, xs.getD (i * 6 + 1) undef, v, xs.getD (i * 6 + 3) undef, xs.getD (i * 6 + 4) undef, xs.getD (i * 6 + 5) undef] := by
  have ge : ∀ q, q ≠ i * 6 + 2 → (xs.set (i * 6 + 2) v).getD q undef = xs.getD q undef := fun q hq => by
    rw [List.getD_eq_getElem?_getD, List.getD_eq_getElem?_getD, List.getElem?_set_ne (by omega)]
  have gs : (xs.set (i * 6 + 2) v).getD (i * 6 + 2) undef = v := by
    rw [List.getD_eq_getElem?_getD, List.getElem?_set_self h]; rfl
  unfold aggF
  rw [ge _ (by omega), ge _ (by omega), gs, ge _ (by omega), ge _ (by omega), ge _ (by omega)]
/-- A row of ours behind a store into it. -/
theorem ownsF_set {W : World} {g n cap S : Nat} {xs : List Value} {e : TypeId} (h : W.ownsRow 0 e S (.slice (some ⟨g, 0, none⟩) n cap) n xs) (p : Nat) (v : Value) : (W.setCell ⟨g, p, none⟩ v).ownsRow 0 e S (.slice (some ⟨g, 0, none⟩) n cap) n (xs.set p v) := by
  refine ⟨by rw [List.length_set]; exact h.1, ?_⟩
  rcases h.2 with ⟨hv, _⟩ | ⟨g', cap', cur, hv, h0, hg, h1, h2, h3, h4⟩
  · simp at hv
  · simp only [Value.slice.injEq, Option.some.injEq, Addr.mk.injEq, and_true, true_and] at hv
    obtain ⟨rfl, rfl⟩ := hv
    refine .inr ⟨g, cap, cur.setIfInBounds p v, rfl, h0, heap_setCell_same _ _ _ _ _ _ hg, h1, h2, by rw [Array.size_setIfInBounds]; exact h3, ?_⟩
    rw [Array.toList_setIfInBounds, ← h4, List.take_set]
theorem strs_none {B : Nat → Prop} {W : World} {l : List (List UInt8)} (h : StrsAt B W none l) : l = [] := by
  cases l with
  | nil => rfl
  | cons x q => obtain ⟨b, o, h, _⟩ := h 0 (by simp); cases h
/-- One more. -/
theorem CopF.next {w : World} {B : Nat → Prop} {l : List FI} {g cap j : Nat} {xs : List Value} {A : Nat → Option Addr × Nat} {W W2 : World} (h : CopF w B l g cap xs A j W) (hj : j < l.length) (hb : Below W.heap.size W W2) {ra : Option Addr} {rc : Nat} (hS : StrsO W.heap.size W2 (.slice ra (l[j]'hj).after.length rc) (l[j]'hj).after) :
    ∃ xs' A', CopF w B l g cap xs' A' (j + 1) (W2.setCell ⟨g, j * 6 + 2, none⟩ (.slice ra (l[j]'hj).after.length rc)) := by
  have hxl : xs.length = l.length * 6 := h.row.1
  have hgW : g < W.heap.size := (h.row.lt g rfl).2
  have hgn := h.gn
  have hrow2 : W2.ownsRow 0 47 6 (.slice (some ⟨g, 0, none⟩) l.length cap) l.length xs := ownsF_keeps h.row fun k hk => hb.block k (h.row.lt k hk).2
  refine ⟨xs.set (j * 6 + 2) (.slice ra (l[j]'hj).after.length rc), fun i => if i = j then (ra, rc) else A i, ?_⟩
  refine ⟨(h.below.trans (hb.mono h.below.size)).setCell (p := ⟨g, j * 6 + 2, none⟩) hgn _, hgn, ownsF_set hrow2 _ _, fun i hi => ?_, fun i hi hij => ?_, fun i hi hij => ?_, fun i i' hii hi' hl' a b ha hb' => ?_⟩
  · by_cases e : i = j
    · subst e
      rw [if_pos rfl, aggF_set2 (by omega)]
      obtain ⟨hu, hf⟩ := h.is i hi
      unfold aggF FI.agg at hu
      simp only [Value.agg.injEq] at hu
      replace hu := congrArg Array.toList hu
      simp only [List.cons.injEq, and_true] at hu
      obtain ⟨e0, e1, e2, e3, e4, e5⟩ := hu
      rw [e0, e1, e3, e4, e5]
      exact ⟨rfl, hf⟩
    · rw [if_neg e, aggF_set (by omega)]
      exact h.is i hi
  · by_cases e : i = j
    · subst e
      rw [if_pos rfl]
      exact (hS.wider hgW).set (p := ⟨g, i * 6 + 2, none⟩) (by show g < g + 1; omega) _
    · rw [if_neg e]
      exact ((h.done i hi (by omega)).later hb).set (p := ⟨g, j * 6 + 2, none⟩) (by show g < g + 1; omega) _
  · rw [if_neg (by omega)]
    exact h.rest i hi (by omega)
  · rw [if_neg (by omega)] at ha
    by_cases e : i' = j
    · subst e
      rw [if_pos rfl] at hb'
      have h1 := (h.done i (by omega) (by omega)).lt (k := a.block) (by rw [ha]; rfl)
      have h2 := hS.new b.block (by rw [show ra = some b from hb']; rfl)
      omega
    · rw [if_neg e] at hb'
      exact h.apart i i' hii (by omega) hl' a b ha hb'
/-- What a copy that is done reads as. -/
theorem CopF.at {w : World} {B : Nat → Prop} {l : List FI} {g cap : Nat} {xs : List Value} {A : Nat → Option Addr × Nat} {W : World} (h : CopF w B l g cap xs A l.length W) : FragAt (BNew w.heap.size W) W l (.slice (some ⟨g, 0, none⟩) l.length cap) := by
  obtain ⟨cur, hg, hcs, hlc, hcm, htk⟩ := h.blk
  refine ⟨_, cap, rfl, hlc, hcm, fun i hi => ?_⟩
  obtain ⟨hc, hfz⟩ := h.cells hi
  obtain ⟨a, c, hv, h1, h2, h3⟩ := (h.done i hi hi).at
  simp only [Value.slice.injEq, true_and] at hv
  obtain ⟨hva, hvc⟩ := hv
  refine ⟨g, 0, (A i).1, (A i).2, rfl, ⟨h.gn, fun o => hfz o⟩, by rw [Nat.zero_add]; exact hc, (h.is i hi).2, by rw [hvc]; exact h1, by rw [hvc]; exact h2, ?_⟩
  rw [hva]
  exact h3.kept (fun _ _ _ => rfl) (fun k hk _ => ⟨by have := hk.1.1; have := h.gn; omega, hk.1.2⟩)

/-- What Copy tells. -/
def CopyFM (w : World) (B : Nat → Prop) (l : List FI) (e : Ending) (W : World) : Prop :=
  ∃ (a : Option Addr) (n c : Nat), e = .returned (.slice a n c) ∧ n = l.length ∧ FragAt (BNew w.heap.size W) W l (.slice a n c) ∧ Below w.heap.size w W ∧ (l ≠ [] → ∃ g xs A, a = some ⟨g, 0, none⟩ ∧ CopF w B l g c xs A l.length W)

set_option maxRecDepth 100000 in
set_option maxHeartbeats 1000000 in
theorem fCopy_any (l : List FI) (B : Nat → Prop) (u : Value) (w : World) (h : FragAt B w l u) (hl6 : l.length ≤ 1000) (ha6 : ∀ x ∈ l, x.after.length ≤ 1000) : Calls Try.prog 24 #[u] w (CopyFM w B l) := by
  obtain ⟨a, c, rfl, hlc, hcm, hS⟩ := h
  obtain ⟨n, hn⟩ : ∃ n, n = l.length := ⟨_, rfl⟩
  rw [← hn] at hlc hl6 ⊢
  have HC := hide (cloneItem_any l B n c a w hn (by omega) hlc hS)
  have HN := hide hn
  have HA6 := hide ha6
  clear hS hlc hcm ha6 hn
  go_enter Try.func24, Try.ntmps24
  go_wp2_with fail
  refine (unhide HC).mono ?_
  rintro e W1 ⟨ra, rc, xs, rfl, hrow, hnew, hat, hb1⟩
  by_cases h0 : l = []
  · have hn0 : n = 0 := by have := unhide HN; rw [h0] at this; exact this
    have HF : Hid (FragAt (BNew w.heap.size W1) W1 l (.slice ra n rc)) := by
      obtain ⟨a', c', hv, h1, h2, _⟩ := ownsF_form hrow
      refine ⟨a', c', by rw [hv, h0, hn0]; rfl, by rw [h0]; exact Nat.zero_le _, h2, fun j hj => ?_⟩
      rw [h0] at hj
      exact absurd hj (Nat.not_lt_zero j)
    have HB1 := hide hb1
    have H0 := hide h0
    clear hrow hnew hat hb1 h0
    subst hn0
    go_wp2_with fail
    go_loopw [9] (fun k W => k = .int .i64 0 ∧ W = W1) (fun _ _ => 0)
    case atStart => exact ⟨rfl, rfl⟩
    case round =>
      obtain ⟨rfl, hw⟩ := hrel
      rw [hw]
      clear hw
      go_wp2_with fail
      go_ret
      exact ⟨ra, 0, rc, rfl, unhide HN, unhide HF, unhide HB1, fun h => absurd (unhide H0) h⟩
  · have hg : ∃ g, ra = some ⟨g, 0, none⟩ := by
      rcases hrow.2 with ⟨_, hz⟩ | ⟨g, cap, cur, hv, _⟩
      · exact absurd (List.eq_nil_of_length_eq_zero (by have := unhide HN; omega)) h0
      · simp only [Value.slice.injEq] at hv
        exact ⟨g, hv.1⟩
    obtain ⟨g, rfl⟩ := hg
    have hex : ∀ i, ∃ p : Option Addr × Nat, ∀ h : i < l.length, aggF xs i = (l[i]'h).agg p.1 p.2 ∧ (l[i]'h).Fits ∧ (l[i]'h).after.length ≤ p.2 ∧ p.2 ≤ maxLen ∧ StrsAt B w p.1 (l[i]'h).after := fun i => by
      by_cases hi : i < l.length
      · obtain ⟨a', c', h1, h2, h3, h4, h5⟩ := hat i hi
        exact ⟨(a', c'), fun _ => ⟨h1, h2, h3, h4, h5⟩⟩
      · exact ⟨(none, 0), fun h => absurd h hi⟩
    have HCP : Hid (∃ xs A, CopF w B l g rc xs A 0 W1) := by
      refine ⟨xs, fun i => Classical.choose (hex i), hb1, hnew g rfl, by rw [← unhide HN]; exact hrow, fun i hi => ?_, fun i hi h => absurd h (Nat.not_lt_zero i), fun i hi _ => ?_, fun i i' _ h _ => absurd h (Nat.not_lt_zero i')⟩
      · have := Classical.choose_spec (hex i) hi
        exact ⟨this.1, this.2.1⟩
      · have := Classical.choose_spec (hex i) hi
        exact this.2.2
    have H0 := hide h0
    clear hrow hnew hat hb1 hex h0
    go_wp2_with fail
    go_loopw [9] (fun k W => ∃ j : Nat, j ≤ n ∧ k = .int .i64 ((j : Nat) : Int) ∧ ∃ xs A, CopF w B l g rc xs A j W) (fun k _ => n - (intOf k).toNat)
    case atStart => exact ⟨0, by omega, rfl, unhide HCP⟩
    case round =>
      obtain ⟨j, hj, rfl, xs', A, hCP⟩ := hrel
      by_cases hlt : j < n
      · have hji : ((j : Nat) : Int) < ((n : Nat) : Int) := by omega
        have hjl : j < l.length := by have := unhide HN; omega
        obtain ⟨hcl, hfz⟩ := hCP.cells hjl
        have c2 := hcl.c2
        have f2 := hfz (j * 6 + 2)
        obtain ⟨r1, r2, r3⟩ := hCP.rest j hjl (Nat.le_refl _)
        have hbw := hCP.below
        have HC := hide (cloneStr_any (l[j]).after B _ (A j).2 (A j).1 wr rfl (by have := unhide HA6 _ (List.getElem_mem hjl); omega) r1 (r3.kept (fun k _ hk => hbw.block k hk) (fun _ h _ => h)))
        have HNX := hide (fun (W2 : World) (hb : Below wr.heap.size wr W2) (ra : Option Addr) (rc : Nat) hS => hCP.next hjl hb (ra := ra) (rc := rc) hS)
        obtain ⟨A1, hA1⟩ : ∃ A1, A1 = (A j).1 := ⟨_, rfl⟩
        obtain ⟨A2, hA2⟩ : ∃ A2, A2 = (A j).2 := ⟨_, rfl⟩
        obtain ⟨m, hm⟩ : ∃ m, m = (l[j]).after.length := ⟨_, rfl⟩
        rw [← hA1, ← hA2, ← hm] at c2 HC
        rw [← hm] at HNX
        clear hCP hcl hfz r1 r2 r3 hbw hA1 hA2 hm
        go_wp2_with fail
        refine (unhide HC).mono ?_
        rintro e W2 ⟨ra2, rc2, rfl, hS2, hb2⟩
        have d2 := (hb2.cell (World.block_lt_of_cell? _ _ c2)).trans c2
        have e2 := (hb2.frozen (World.block_lt_of_cell? _ _ c2)).trans f2
        have HN2 := hide (unhide HNX W2 hb2 ra2 rc2 hS2)
        clear hS2 hb2 c2 f2
        go_wp2_with fail
        exact ⟨⟨j + 1, by omega, by go_num, unhide HN2⟩, by simp [intOf]; omega⟩
      · have e : j = n := by omega
        have hji : ¬ ((j : Nat) : Int) < ((n : Nat) : Int) := by omega
        have HCP2 : Hid (CopF w B l g rc xs' A l.length wr) := by show CopF _ _ _ _ _ _ _ _ _; rw [← unhide HN, ← e]; exact hCP
        clear hCP e
        go_wp2_with fail
        go_ret
        refine ⟨_, n, rc, rfl, unhide HN, ?_, (unhide HCP2).below, fun _ => ⟨g, xs', A, rfl, unhide HCP2⟩⟩
        rw [unhide HN]
        exact (unhide HCP2).at
end Go.Proofs.Yteggocgfaejmbaa

namespace Go.Proofs.Yteggocgfaejmbaa
open Go.RowKit Go.Lib

/-- One block alone has changed. -/
structure Only (g : Nat) (A B : World) : Prop where
  os : B.os = A.os
  tape : B.tape = A.tape
  output : B.output = A.output
  size : B.heap.size = A.heap.size
  block : ∀ k, k ≠ g → B.heap[k]? = A.heap[k]?
theorem Only.refl (g : Nat) (A : World) : Only g A A := ⟨rfl, rfl, rfl, rfl, fun _ _ => rfl⟩
theorem Only.set {g : Nat} {A B : World} (h : Only g A B) {p : Addr} (hp : p.block = g) (v : Value) : Only g A (B.setCell p v) :=
  ⟨h.os, h.tape, h.output, by simpa [World.setCell] using h.size, fun k hk => (Below.heap_setCell _ _ _ _ (by rw [hp]; exact hk)).trans (h.block k hk)⟩
theorem Only.below {g n : Nat} {A B : World} (h : Only g A B) (hg : n ≤ g) : Below n A B := ⟨h.os, h.tape, h.output, Nat.le_of_eq h.size.symm, fun k hk => h.block k (by omega)⟩
theorem Only.bytes {g : Nat} {A B : World} (h : Only g A B) {u : Value} {bs : List UInt8} (hb : Bytes A u bs) (hne : ∀ k, u.ownBlock = some k → k ≠ g) : Bytes B u bs := hb.kept fun k hk _ => h.block k (hne k hk)

theorem xor255 (x : UInt8) : bits .xor .u8 ((x.toNat : Nat) : Int) 255 = (((UInt8.ofNat (x.toNat ^^^ 255)).toNat : Nat) : Int) := by
  have hx := x.toNat_lt
  have hl : x.toNat ^^^ 255 < 256 := Nat.xor_lt_two_pow (n := 8) (by omega) (by omega)
  rw [u8_toNat hl]
  exact u8_xor_nat x.toNat 255 (by omega) (by omega)
theorem own_form {w W : World} {v : Value} {bs : List UInt8} (h : Own w v bs W) (hne : 0 < bs.length) : ∃ g c, v = .slice (some ⟨g, 0, none⟩) bs.length c ∧ bs.length ≤ c ∧ w.heap.size ≤ g ∧ g < W.heap.size := by
  rcases h.own.2 with ⟨_, hn⟩ | ⟨g, cap, cur, hv, _, hg, h1, _⟩
  · omega
  · exact ⟨g, cap, hv, h1, h.new g (by rw [hv]; rfl), (Array.getElem?_eq_some_iff.1 hg).1⟩
/-- A byte of a row of ours, read and written. -/
theorem row_turn {W : World} {g n c : Nat} {bs : List UInt8} (h : W.ownsRow 0 5 1 (.slice (some ⟨g, 0, none⟩) n c) bs.length (bs.map bv)) (hl : bs.length = n) {k : Nat} (hk : k < n) :
    ∃ x : UInt8, W.cell? ⟨g, k, none⟩ = some (.int .u8 ((x.toNat : Nat) : Int)) ∧ W.frozen? ⟨g, k, none⟩ = false ∧ ∃ bs' : List UInt8, bs'.length = n ∧ (W.setCell ⟨g, k, none⟩ (.int .u8 (((UInt8.ofNat (x.toNat ^^^ 255)).toNat : Nat) : Int))).ownsRow 0 5 1 (.slice (some ⟨g, 0, none⟩) n c) bs'.length (bs'.map bv) := by
  obtain ⟨b, e, hc, hf, hs⟩ := own_at h hl hk
  simp only [Option.some.injEq, Addr.mk.injEq, and_true] at e
  subst e
  exact ⟨_, hc, hf, bs.set k (UInt8.ofNat ((bs.getD k 0).toNat ^^^ 255)), by rw [List.length_set, hl], hs _⟩

end Go.Proofs.Yteggocgfaejmbaa

namespace Go.Proofs.Yteggocgfaejmbaa
open Go.RowKit

/-- A world in which all that was there in w0 is as it was. -/
def Later (w0 : World) := { W : World // Below w0.heap.size w0 W }
/-- The class of these worlds. -/
def IsLater (w0 : World) : World → Prop := fun W => ∃ x : Later w0, W = x.1
theorem Later.cell {w0 : World} {p : Addr} {v : Value} (h : w0.cell? p = some v) (x : Later w0) : x.1.cell? p = some v := (x.2.cell (World.block_lt_of_cell? _ _ h)).trans h
theorem Later.bytes {w0 : World} {u : Value} {bs : List UInt8} (h : Bytes w0 u bs) (x : Later w0) : Bytes x.1 u bs := h.kept fun k _ hk => x.2.block k hk
theorem Later.then {w0 : World} (x : Later w0) {W : World} (hb : Below x.1.heap.size x.1 W) : ∃ y : Later w0, W = y.1 := ⟨⟨W, x.2.trans (hb.mono x.2.size)⟩, rfl⟩
theorem Later.same {w0 : World} (x : Later w0) {W : World} (e : W = x.1) : ∃ y : Later w0, W = y.1 := ⟨x, e⟩
theorem wp_region_later {id : Nat} {Q : Exit → Act → World → Prop} {a : Act} {w : World} {l : List Oper} (hB : Region.lexB .any l.toArray = true)
    (h : wpQuiet Try.prog l.toArray (fun W => ∃ x : Later w, W = x.1) (fun a' => ∀ w', (∃ x : Later w, w' = x.1) → Q .normal a' w') l a) : (Code.region id l.toArray true).wp Try.prog Q a w :=
  wp_region_quiet (C := fun W => ∃ x : Later w, W = x.1) (by kernel_rfl) hB ⟨⟨_, (Below.refl _ w).drew⟩, rfl⟩ (by simpa using h)
end Go.Proofs.Yteggocgfaejmbaa

namespace Go.Proofs.Yteggocgfaejmbaa
open Go.ChangeShapes Go.WideShapes Go.ChangeAt Go.RowKit

section
variable {H : Type} {enc : TypeId × Value → H} {P : Program} {w : World} {base : Nat} {spare : Nat → Bool} {held : Bool}

/-- An array of numbers by value. -/
theorem open_numbers {n : Nat} {t e : TypeId} {k : IntKind} {r : Reach} {b0 : Nat} {v : Value} {d : DataW H} {ps : List MemPlace} (ht : P.underlying t = some (.array n e)) (he : P.underlying e = some (.int k)) (hce : P.cellsOf e = 1) (hC : P.cellsOf t = n)
    (hv : Value.okWide P w r b0 t v) (h : DataW.Trod enc P w base spare held t v d ps) : ∃ ks : List Int, ks.length = n ∧ v = .agg (ks.map (Value.int k)).toArray ∧ ∀ x ∈ ks, (Lit.int k x).wf = true := by
  simp only [Value.okWide, ht] at hv
  obtain ⟨cs, rfl, hsz, _⟩ := hv
  obtain ⟨fuel, hf⟩ := h
  obtain ⟨xs, m, _, _, _, hxl, hxs⟩ := DataW.trod_array ht hf
  have hcs : ∀ i, i < n → ∃ x, cs[i]? = some (.int k x) ∧ (Lit.int k x).wf = true := fun i hi => by
    have h1 := hxs i hi
    rw [hce, Nat.mul_one] at h1
    have hlt : i < cs.size := by omega
    have hx : xs[i]? = some xs[i] := List.getElem?_eq_getElem (by omega)
    have hd : (cs.toList.drop i).take 1 = [cs[i]] := by
      rw [List.drop_eq_getElem_cons (by simpa using hlt)]
      simp
    have h2 : DataW.trod enc P w base spare held m e [cs[i]] = some xs[i] := by
      rw [← hd, ← hx]; exact h1
    obtain ⟨x, e1, _, e2⟩ := DataW.trod_int he h2
    simp at e1
    exact ⟨x, by rw [Array.getElem?_eq_getElem hlt, e1], e2⟩
  refine ⟨(List.range n).map fun i => intOf (cs.getD i undef), by simp, ?_, fun x hx => ?_⟩
  · congr 1
    apply Array.ext_getElem?
    intro i
    by_cases hi : i < n
    · obtain ⟨x, h1, _⟩ := hcs i hi
      rw [h1]
      simp [hi, intOf, Array.getD_eq_getD_getElem?, h1]
    · rw [Array.getElem?_eq_none (by omega)]
      simp [hi]
  · obtain ⟨i, hi, rfl⟩ := List.mem_map.1 hx
    obtain ⟨x, h1, h2⟩ := hcs i (by simpa using hi)
    simpa [intOf, Array.getD_eq_getD_getElem?, h1] using h2

/-- Numbers that are bytes. -/
theorem bytes_numbers {ks : List Int} (h : ∀ x ∈ ks, (Lit.int .u8 x).wf = true) : ∃ bs : List UInt8, bs.length = ks.length ∧ ks.map (Value.int .u8) = bs.map bv := by
  refine ⟨ks.map fun x => UInt8.ofNat x.toNat, by simp, ?_⟩
  rw [List.map_map]
  refine List.map_congr_left fun x hx => ?_
  have hb : 0 ≤ x ∧ x ≤ 255 := by simpa [Lit.wf, IntKind.min, IntKind.max, IntKind.signed, IntKind.bits] using h x hx
  show Value.int .u8 x = bv (UInt8.ofNat x.toNat)
  unfold bv
  rw [UInt8.toNat_ofNat']
  congr 2
  omega

theorem four_of {l : List Int} (h : l.length = 4) : ∃ a b c d, l = [a, b, c, d] := by
  match l, h with
  | [a, b, c, d], _ => exact ⟨a, b, c, d, rfl⟩

theorem four_bytes {l : List UInt8} (h : l.length = 4) : (l.map bv).toArray = #[.int .u8 ((l.getD 0 0).toNat : Nat), .int .u8 ((l.getD 1 0).toNat : Nat), .int .u8 ((l.getD 2 0).toNat : Nat), .int .u8 ((l.getD 3 0).toNat : Nat)] := by
  match l, h with
  | [a, b, c, d], _ => rfl

/-- A slice of bytes that came in. -/
theorem open_bytes {t e : TypeId} {r : Reach} {b0 : Nat} {v : Value} {d : DataW H} {ps : List MemPlace} (ht : P.underlying t = some (.slice e)) (he : P.underlying e = some (.int .u8)) (hce : P.cellsOf e = 1)
    (hv : Value.okWide P w r b0 t v) (h : DataW.Trod enc P w base spare held t v d ps) : ∃ a n c, v = .slice a n c ∧ n ≤ c ∧ ∃ bs : List UInt8, bs.length = n ∧ Bytes w v bs := by
  obtain ⟨a, n, c, rfl⟩ := okWide_slice ht hv
  obtain ⟨fuel, hf⟩ := h
  rcases open_ints ht he hce hf with ⟨hcs, _⟩ | ⟨x, l, c', zs, hcs, _, hl, hm, hz, _, hcell, hwz⟩
  · simp [Value.cells] at hcs
    obtain ⟨rfl, rfl, rfl⟩ := hcs
    exact ⟨none, 0, 0, rfl, Nat.le_refl _, [], rfl, .inl ⟨rfl, rfl⟩⟩
  · simp [Value.cells] at hcs
    obtain ⟨rfl, rfl, rfl⟩ := hcs
    have hzl : n ≤ zs.length := by rw [hz]; split <;> omega
    refine ⟨_, n, c, rfl, hl, (zs.take n).map (fun x => UInt8.ofNat x.toNat), by simp; omega, .inr ⟨x, c, by simp; omega, by simp; omega, hm, fun j u hu => ?_⟩⟩
    have hj : j < n := by have := (List.getElem?_eq_some_iff.1 hu).1; simp at this; omega
    have hw := hwz (zs.getD j 0) (by rw [List.getD_eq_getElem?_getD, List.getElem?_eq_getElem (by omega)]; simp)
    have hb : 0 ≤ zs.getD j 0 ∧ zs.getD j 0 ≤ 255 := by simpa [Lit.wf, IntKind.min, IntKind.max, IntKind.signed, IntKind.bits] using hw
    rw [hcell j (by omega)]
    rw [List.map_map, List.getElem?_map, List.getElem?_take, if_pos hj, List.getElem?_eq_getElem (by omega)] at hu
    simp only [Option.map_some, Function.comp_apply, Option.some.injEq] at hu
    rw [← hu, List.getD_eq_getElem?_getD, List.getElem?_eq_getElem (by omega)]
    rw [List.getD_eq_getElem?_getD, List.getElem?_eq_getElem (by omega)] at hb
    simp only [Option.getD_some] at hb ⊢
    unfold bv
    rw [UInt8.toNat_ofNat']
    congr 2
    omega

/-- A slice of numbers that came in, by index. -/
theorem open_row {t e : TypeId} {k : IntKind} {r : Reach} {b0 : Nat} {v : Value} {d : DataW H} {ps : List MemPlace} (ht : P.underlying t = some (.slice e)) (he : P.underlying e = some (.int k)) (hce : P.cellsOf e = 1)
    (hv : Value.okWide P w r b0 t v) (h : DataW.Trod enc P w base spare held t v d ps) : ∃ a n c, v = .slice a n c ∧ n ≤ c ∧ ∃ z : Nat → Int, (∀ i, (Lit.int k (z i)).wf = true) ∧ (n = 0 ∨ ∃ b o, a = some ⟨b, o, none⟩ ∧ ∀ i, i < n → w.cell? ⟨b, o + i, none⟩ = some (.int k (z i))) := by
  have wf0 : (Lit.int k 0).wf = true := by cases k <;> decide
  obtain ⟨a, n, c, rfl⟩ := okWide_slice ht hv
  obtain ⟨fuel, hf⟩ := h
  rcases open_ints ht he hce hf with ⟨hcs, _⟩ | ⟨x, l, c', zs, hcs, _, hl, hm, hz, _, hcell, hwz⟩
  · simp [Value.cells] at hcs
    obtain ⟨rfl, rfl, rfl⟩ := hcs
    exact ⟨none, 0, 0, rfl, Nat.le_refl _, fun _ => 0, fun _ => wf0, .inl rfl⟩
  · simp [Value.cells] at hcs
    obtain ⟨rfl, rfl, rfl⟩ := hcs
    have hzl : n ≤ zs.length := by rw [hz]; split <;> omega
    refine ⟨_, n, c, rfl, hl, fun i => zs.getD i 0, fun i => ?_, ?_⟩
    · by_cases hi : i < zs.length
      · exact hwz _ (by show zs.getD i 0 ∈ zs; rw [List.getD_eq_getElem?_getD, List.getElem?_eq_getElem hi]; simp)
      · show (Lit.int k (zs.getD i 0)).wf = true
        rw [List.getD_eq_getElem?_getD, List.getElem?_eq_none (by omega)]; exact wf0
    · by_cases hn : n = 0
      · exact .inl hn
      · obtain ⟨b, o, spot⟩ := x
        have hc := hcell 0 (by omega)
        have hspot : spot = none := by simpa [Addr.add] using World.cell?_spot hc
        subst hspot
        exact .inr ⟨b, o, rfl, fun i hi => by have := hcell i (by omega); rwa [Addr.add_mid] at this⟩
end
end Go.Proofs.Yteggocgfaejmbaa

namespace Go.Proofs.Yteggocgfaejmbaa
open Go.ChangeShapes Go.WideShapes Go.ChangeAt Go.RowKit

section
variable {H : Type} {enc : TypeId × Value → H} {w : World} {base : Nat} {spare : Nat → Bool} {held : Bool}

theorem six_ofF {l : List Value} (h : l.length = 6) : ∃ a b c d e f, l = [a, b, c, d, e, f] := by
  match l, h with
  | [a, b, c, d, e, f], _ => exact ⟨a, b, c, d, e, f, rfl⟩
theorem at_someF {α : Type} {l : List α} {n i : Nat} (h : l.length = n) (hi : i < n) : ∃ y, l[i]? = some y := ⟨l[i], List.getElem?_eq_getElem (by omega)⟩
theorem list_ofF {α : Type} {n : Nat} {P : Nat → α → Prop} (h : ∀ i, i < n → ∃ v : α, P i v) : ∃ l : List α, l.length = n ∧ ∀ i (hi : i < l.length), P i (l[i]'hi) := by
  refine ⟨(List.range n).pmap (fun i hi => Classical.choose (h i hi)) (fun i hi => List.mem_range.1 hi), by simp, fun i hi => ?_⟩
  have hi' : i < n := by simpa using hi
  simp only [List.getElem_pmap, List.getElem_range]
  exact Classical.choose_spec (h i hi')

/-- Texts within what came in. -/
theorem trod_strsF {fuel : Nat} {v : Value} {x : DataW H × List MemPlace} (h : DataW.trod enc Try.prog w base spare held fuel 45 [v] = some x) :
    ∃ (q : List (List UInt8)) (a : Option Addr) (c : Nat), v = .slice a q.length c ∧ q.length ≤ c ∧ c ≤ maxLen ∧ StrsAt (fun _ => True) w a q := by
  have c9 : Try.prog.cellsOf 9 = 1 := by kernel_rfl
  rcases DataW.trod_slice Try.underlying45 h with ⟨hcs, _⟩ | ⟨a, l, c', elems, rest, m', hm', hcs, _, hb, hlc, hcm, hel, heach, _⟩
  · simp at hcs
    subst hcs
    exact ⟨[], none, 0, rfl, Nat.le_refl _, Nat.zero_le _, StrsAt.nil _ _ _⟩
  · simp at hcs
    subst hcs
    have first : ∀ i, i < l → ∃ s : List UInt8, w.cell? (a.add i) = some (.string ⟨s.toArray⟩) ∧ s.length ≤ maxLen := fun i hi => by
      have h1 := heach i hi
      rw [c9, List.getElem?_eq_getElem (show i < elems.length by omega), Option.bind_eq_some_iff] at h1
      obtain ⟨cs, h2, h3⟩ := h1
      unfold World.cells? at h2
      split at h2
      · obtain ⟨z, g2, _, hz⟩ := DataW.trod_string Try.underlying9 h3
        have h4 := mapM_some_get h2 0 0 (by simp)
        rw [g2] at h4
        have h5 : w.cell? (a.add i) = some (.string z) := by
          have e : (a.add (i * 1)).add 0 = a.add i := by simp [Addr.add]
          rw [← e]
          simpa using h4
        refine ⟨z.data.toList, ?_, by rw [Array.length_toList]; exact hz⟩
        rw [h5]
      · cases h2
    obtain ⟨q, hq, hE⟩ := list_ofF (P := fun i (s : List UInt8) => w.cell? (a.add i) = some (.string ⟨s.toArray⟩) ∧ s.length ≤ maxLen) first
    subst hq
    refine ⟨q, some a, c', rfl, hlc, hcm, fun i hi => ?_⟩
    obtain ⟨b, o, spot⟩ := a
    obtain ⟨gz, _⟩ := hE 0 (by omega)
    have hspot : spot = none := by simpa [Addr.add] using World.cell?_spot gz
    subst hspot
    obtain ⟨g0, h0⟩ := hE i hi
    rw [Addr.add_mid] at g0
    exact ⟨b, o, rfl, trivial, g0, h0⟩

/-- An item within what came in. -/
theorem trod_itemF {fuel : Nat} {cs : List Value} {x : DataW H × List MemPlace} (h : DataW.trod enc Try.prog w base spare held fuel 47 cs = some x) :
    ∃ (v : FI) (a : Option Addr) (c : Nat), cs = [.string ⟨v.name.toArray⟩, .int .u8 ((v.k : Nat) : Int), .slice a v.after.length c, .string ⟨v.over.toArray⟩, .int .i64 v.width, .int .i64 v.quota] ∧ v.Fits ∧ v.after.length ≤ c ∧ c ≤ maxLen ∧ StrsAt (fun _ => True) w a v.after := by
  obtain ⟨xs, m, hfuel, hx, hl, hlen, hf⟩ := DataW.trod_struct Try.underlying47 h
  have hl6 : cs.length = 6 := hl.trans (by kernel_rfl)
  obtain ⟨v0, v1, v2, v3, v4, v5, rfl⟩ := six_ofF hl6
  have cu : Try.prog.cellsOf 5 = 1 := by kernel_rfl
  have ci : Try.prog.cellsOf 3 = 1 := by kernel_rfl
  have cs9 : Try.prog.cellsOf 9 = 1 := by kernel_rfl
  have cl : Try.prog.cellsOf 45 = 1 := by kernel_rfl
  have hlen' : xs.length = 6 := hlen
  obtain ⟨y0, e0⟩ := at_someF hlen' (i := 0) (by omega)
  obtain ⟨y1, e1⟩ := at_someF hlen' (i := 1) (by omega)
  obtain ⟨y2, e2⟩ := at_someF hlen' (i := 2) (by omega)
  obtain ⟨y3, e3⟩ := at_someF hlen' (i := 3) (by omega)
  obtain ⟨y4, e4⟩ := at_someF hlen' (i := 4) (by omega)
  obtain ⟨y5, e5⟩ := at_someF hlen' (i := 5) (by omega)
  have f0 : DataW.trod enc Try.prog w base spare held m 9 (([v0, v1, v2, v3, v4, v5].drop 0).take (Try.prog.cellsOf 9)) = some y0 := (hf 0 _ rfl).trans e0
  rw [cs9] at f0
  replace f0 : DataW.trod enc Try.prog w base spare held m 9 [v0] = some y0 := f0
  have f1 : DataW.trod enc Try.prog w base spare held m 5 (([v0, v1, v2, v3, v4, v5].drop 1).take (Try.prog.cellsOf 5)) = some y1 := (hf 1 _ rfl).trans e1
  rw [cu] at f1
  replace f1 : DataW.trod enc Try.prog w base spare held m 5 [v1] = some y1 := f1
  have f2 : DataW.trod enc Try.prog w base spare held m 45 (([v0, v1, v2, v3, v4, v5].drop 2).take (Try.prog.cellsOf 45)) = some y2 := (hf 2 _ rfl).trans e2
  rw [cl] at f2
  replace f2 : DataW.trod enc Try.prog w base spare held m 45 [v2] = some y2 := f2
  have f3 : DataW.trod enc Try.prog w base spare held m 9 (([v0, v1, v2, v3, v4, v5].drop 3).take (Try.prog.cellsOf 9)) = some y3 := (hf 3 _ rfl).trans e3
  rw [cs9] at f3
  replace f3 : DataW.trod enc Try.prog w base spare held m 9 [v3] = some y3 := f3
  have f4 : DataW.trod enc Try.prog w base spare held m 3 (([v0, v1, v2, v3, v4, v5].drop 4).take (Try.prog.cellsOf 3)) = some y4 := (hf 4 _ rfl).trans e4
  rw [ci] at f4
  replace f4 : DataW.trod enc Try.prog w base spare held m 3 [v4] = some y4 := f4
  have f5 : DataW.trod enc Try.prog w base spare held m 3 (([v0, v1, v2, v3, v4, v5].drop 5).take (Try.prog.cellsOf 3)) = some y5 := (hf 5 _ rfl).trans e5
  rw [ci] at f5
  replace f5 : DataW.trod enc Try.prog w base spare held m 3 [v5] = some y5 := f5
  obtain ⟨z0, g0, _, hz0⟩ := DataW.trod_string Try.underlying9 f0
  obtain ⟨k, g1, _, w1⟩ := DataW.trod_int Try.underlying5 f1
  obtain ⟨q, a, c, g2, hqc, hcm, hS⟩ := trod_strsF f2
  obtain ⟨z3, g3, _, hz3⟩ := DataW.trod_string Try.underlying9 f3
  obtain ⟨wd, g4, _, w4⟩ := DataW.trod_int Try.underlying3 f4
  obtain ⟨qt, g5, _, w5⟩ := DataW.trod_int Try.underlying3 f5
  simp at g0 g1 g3 g4 g5
  subst g0 g1 g2 g3 g4 g5
  have hk : 0 ≤ k ∧ k ≤ 255 := by simpa [Lit.wf, IntKind.min, IntKind.max, IntKind.signed, IntKind.bits] using w1
  have h4 : -9223372036854775808 ≤ wd ∧ wd ≤ 9223372036854775807 := by simpa [Lit.wf, IntKind.min, IntKind.max, IntKind.signed, IntKind.bits] using w4
  have h5 : -9223372036854775808 ≤ qt ∧ qt ≤ 9223372036854775807 := by simpa [Lit.wf, IntKind.min, IntKind.max, IntKind.signed, IntKind.bits] using w5
  have hkk : ((k.toNat : Nat) : Int) = k := by omega
  have hzz : ∀ z : ByteArray, (⟨z.data.toList.toArray⟩ : ByteArray) = z := fun z => by cases z; simp
  refine ⟨⟨z0.data.toList, k.toNat, q, z3.data.toList, wd, qt⟩, a, c, ?_, ⟨by show z0.data.toList.length ≤ _; rw [Array.length_toList]; exact hz0, by show k.toNat < _; omega, by show z3.data.toList.length ≤ _; rw [Array.length_toList]; exact hz3, h4, h5⟩, hqc, hcm, hS⟩
  simp only [hkk, hzz]

set_option maxRecDepth 100000 in
/-- An item that came in. -/
theorem open_itemF {r0 : Reach} {b0 : Nat} {v : Value} {d : DataW H} {ps : List MemPlace} (hv : Value.okWide Try.prog w r0 b0 47 v) (h : DataW.Trod enc Try.prog w base spare held 47 v d ps) :
    ∃ x : FI, x.At (fun _ => True) w v := by
  have hu : Try.prog.underlying 47 = _ := Try.underlying47
  simp only [Value.okWide, hu] at hv
  obtain ⟨fuel, hf⟩ := h
  obtain ⟨cs, rfl, hrest⟩ := hv
  obtain ⟨x, a, c, h1, h2, h3, h4, h5⟩ := trod_itemF hf
  refine ⟨x, a, c, ?_, h2, h3, h4, h5⟩
  have h6 : cs.toList = _ := h1
  rw [← Array.toArray_toList (xs := cs), h6]
  rfl

set_option maxRecDepth 100000 in
/-- A fragment that came in: nil has no room. -/
theorem open_itemsF {r0 : Reach} {b0 : Nat} {v : Value} {d : DataW H} {ps : List MemPlace} (hv : Value.okWide Try.prog w r0 b0 22 v) (h : DataW.Trod enc Try.prog w base spare held 22 v d ps) :
    ∃ (l : List FI) (a : Option Addr) (n c : Nat), v = .slice a n c ∧ n = l.length ∧ FragAt (fun _ => True) w l (.slice a n c) ∧ (a = none → c = 0) := by
  obtain ⟨a0, n0, c0, rfl⟩ := okWide_slice Try.underlying22 hv
  have c6 : Try.prog.cellsOf 47 = 6 := by kernel_rfl
  obtain ⟨fuel, hf⟩ := h
  rcases DataW.trod_slice Try.underlying22 hf with ⟨hcs, _⟩ | ⟨a, l, c', elems, rest, m', hm', hcs, _, hb, hlc, hcm, hel, heach, _⟩
  · simp [Value.cells] at hcs
    obtain ⟨rfl, rfl, rfl⟩ := hcs
    exact ⟨[], none, 0, 0, rfl, rfl, FragAt.nil _ _, fun _ => rfl⟩
  · simp [Value.cells] at hcs
    obtain ⟨rfl, rfl, rfl⟩ := hcs
    have first : ∀ i, i < n0 → ∃ (x : FI) (pa : Option Addr) (pc : Nat), w.cell? ((a.add (i * 6)).add 0) = some (.string ⟨x.name.toArray⟩) ∧ w.cell? ((a.add (i * 6)).add 1) = some (.int .u8 ((x.k : Nat) : Int)) ∧ w.cell? ((a.add (i * 6)).add 2) = some (.slice pa x.after.length pc) ∧ w.cell? ((a.add (i * 6)).add 3) = some (.string ⟨x.over.toArray⟩) ∧ w.cell? ((a.add (i * 6)).add 4) = some (.int .i64 x.width) ∧ w.cell? ((a.add (i * 6)).add 5) = some (.int .i64 x.quota) ∧ x.Fits ∧ x.after.length ≤ pc ∧ pc ≤ maxLen ∧ StrsAt (fun _ => True) w pa x.after := fun i hi => by
      have h1 := heach i hi
      rw [c6, List.getElem?_eq_getElem (show i < elems.length by omega), Option.bind_eq_some_iff] at h1
      obtain ⟨cs, h2, h3⟩ := h1
      unfold World.cells? at h2
      split at h2
      · obtain ⟨x, pa, pc, rfl, hfit, hpc, hpm, hS⟩ := trod_itemF h3
        have g0 := mapM_some_get h2 0 0 (by simp)
        have g1 := mapM_some_get h2 1 1 (by simp)
        have g2 := mapM_some_get h2 2 2 (by simp)
        have g3 := mapM_some_get h2 3 3 (by simp)
        have g4 := mapM_some_get h2 4 4 (by simp)
        have g5 := mapM_some_get h2 5 5 (by simp)
        exact ⟨x, pa, pc, g0, g1, g2, g3, g4, g5, hfit, hpc, hpm, hS⟩
      · cases h2
    have each : ∀ i, i < n0 → ∃ x : FI, x.Elem (fun _ => True) w (some a) i := fun i hi => by
      obtain ⟨b, o, spot⟩ := a
      obtain ⟨_, _, _, gz, _⟩ := first 0 (by omega)
      have hspot : spot = none := by simpa [Addr.add] using World.cell?_spot gz
      subst hspot
      obtain ⟨x, pa, pc, g0, g1, g2, g3, g4, g5, hfit, hpc, hpm, hS⟩ := first i hi
      rw [Addr.add_mid, Addr.add_mid] at g0 g1 g2 g3 g4 g5
      exact ⟨x, b, o, pa, pc, rfl, trivial, ⟨g0, g1, g2, g3, g4, g5⟩, hfit, hpc, hpm, hS⟩
    obtain ⟨q, hq, hE⟩ := list_ofF each
    exact ⟨q, some a, n0, c0, rfl, hq.symm, ⟨some a, c0, by rw [hq], by omega, hcm, fun i hi => hE i hi⟩, fun h => by cases h⟩
end
end Go.Proofs.Yteggocgfaejmbaa
