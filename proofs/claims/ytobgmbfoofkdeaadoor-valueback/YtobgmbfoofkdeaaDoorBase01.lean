/- ValMem, ValRefA, ValRefB, QuietB, ValRefC, WireRef: our own definitions and contracts; no statement of the seat is proved here. -/
import Derived.Test.YtobgmbfoofkdeaaDoorBase00
namespace Go.Proofs.YtobgmbfoofkdeaaDoor
open Go.RowKit

mutual
/-- The struct u reads as the value; the blocks of its lists are of B. -/
def VD.At (B : Nat → Prop) (W : World) : VD → Value → Prop
  | .mk k n s l, u => ∃ a c, u = .agg #[.int .u8 ((k : Nat) : Int), .int .i64 n, .string ⟨s.toArray⟩, .slice a l.length c] ∧ k < 256 ∧ InR n ∧ s.length ≤ maxLen ∧ l.length ≤ c ∧ c ≤ maxLen ∧ VD.AtL B W l a 0
def VD.AtL (B : Nat → Prop) (W : World) : List VD → Option Addr → Nat → Prop
  | [], _, _ => True
  | x :: r, a, i => (∃ b o e0 e1 e2 e3, a = some ⟨b, o, none⟩ ∧ B b ∧ W.cell? ⟨b, o + i * 4, none⟩ = some e0 ∧ W.cell? ⟨b, o + i * 4 + 1, none⟩ = some e1 ∧ W.cell? ⟨b, o + i * 4 + 2, none⟩ = some e2 ∧ W.cell? ⟨b, o + i * 4 + 3, none⟩ = some e3 ∧ x.At B W (.agg #[e0, e1, e2, e3])) ∧ VD.AtL B W r a (i + 1)
end

/-- One value of a row, in memory. -/
def VD.Elem (B : Nat → Prop) (W : World) (x : VD) (a : Option Addr) (i : Nat) : Prop :=
  ∃ b o e0 e1 e2 e3, a = some ⟨b, o, none⟩ ∧ B b ∧ W.cell? ⟨b, o + i * 4, none⟩ = some e0 ∧ W.cell? ⟨b, o + i * 4 + 1, none⟩ = some e1 ∧ W.cell? ⟨b, o + i * 4 + 2, none⟩ = some e2 ∧ W.cell? ⟨b, o + i * 4 + 3, none⟩ = some e3 ∧ x.At B W (.agg #[e0, e1, e2, e3])

theorem VD.atL_iff {B : Nat → Prop} {W : World} {a : Option Addr} : ∀ (l : List VD) (i : Nat), VD.AtL B W l a i ↔ ∀ j (h : j < l.length), VD.Elem B W (l[j]'h) a (i + j)
  | [], i => by simp [VD.AtL]
  | x :: r, i => by
    rw [VD.AtL, VD.atL_iff r (i + 1)]
    constructor
    · rintro ⟨h1, h2⟩ j hj
      cases j with
      | zero => exact h1
      | succ j =>
        have := h2 j (by simpa using hj)
        rw [show i + (j + 1) = i + 1 + j by omega]
        exact this
    · intro h
      refine ⟨h 0 (by simp), fun j hj => ?_⟩
      have := h (j + 1) (by simpa using hj)
      rw [show i + 1 + j = i + (j + 1) by omega]
      exact this

theorem VD.at_iff {B : Nat → Prop} {W : World} {v : VD} {u : Value} : v.At B W u ↔ ∃ a c, u = .agg #[.int .u8 ((v.k : Nat) : Int), .int .i64 v.n, .string ⟨v.s.toArray⟩, .slice a v.l.length c] ∧ v.k < 256 ∧ InR v.n ∧ v.s.length ≤ maxLen ∧ v.l.length ≤ c ∧ c ≤ maxLen ∧ ∀ j (h : j < v.l.length), VD.Elem B W (v.l[j]'h) a j := by
  obtain ⟨k, n, s, l⟩ := v
  simp only [VD.At, VD.k, VD.n, VD.s, VD.l]
  have := @VD.atL_iff B W
  constructor
  · rintro ⟨a, c, h1, h2, h3, h4, h5, h6, h7⟩
    refine ⟨a, c, h1, h2, h3, h4, h5, h6, fun j hj => ?_⟩
    have := (VD.atL_iff l 0).1 h7 j hj
    rwa [Nat.zero_add] at this
  · rintro ⟨a, c, h1, h2, h3, h4, h5, h6, h7⟩
    refine ⟨a, c, h1, h2, h3, h4, h5, h6, (VD.atL_iff l 0).2 fun j hj => ?_⟩
    rw [Nat.zero_add]
    exact h7 j hj

/-- Behind whatever leaves the blocks of its lists alone. -/
theorem VD.At.kept {B B' : Nat → Prop} {W W' : World} (hk : ∀ k, B k → k < W.heap.size → W'.heap[k]? = W.heap[k]?) (hB : ∀ k, B k → k < W.heap.size → B' k) : ∀ {v : VD} {u : Value}, v.At B W u → v.At B' W' u := by
  intro v
  induction v using VD.induct with
  | h v ih =>
    intro u h
    rw [VD.at_iff] at h ⊢
    obtain ⟨a, c, h1, h2, h3, h4, h5, h6, h7⟩ := h
    refine ⟨a, c, h1, h2, h3, h4, h5, h6, fun j hj => ?_⟩
    obtain ⟨b, o, e0, e1, e2, e3, ha, hb, c0, c1, c2, c3, he⟩ := h7 j hj
    have hlt : b < W.heap.size := World.block_lt_of_cell? W _ c0
    have hcell : ∀ p, W'.cell? ⟨b, p, none⟩ = W.cell? ⟨b, p, none⟩ := fun p => World.cell?_of_block (a := ⟨b, p, none⟩) (hk b hb hlt)
    exact ⟨b, o, e0, e1, e2, e3, ha, hB b hb hlt, (hcell _).trans c0, (hcell _).trans c1, (hcell _).trans c2, (hcell _).trans c3, ih _ (List.getElem_mem hj) he⟩
theorem VD.At.later {B : Nat → Prop} {W W' : World} {v : VD} {u : Value} (h : v.At B W u) (hb : Below W.heap.size W W') : v.At B W' u := h.kept (fun k _ hk => hb.block k hk) (fun _ hB _ => hB)
theorem VD.At.wider {B B' : Nat → Prop} {W : World} {v : VD} {u : Value} (h : v.At B W u) (hB : ∀ k, B k → B' k) : v.At B' W u := h.kept (fun _ _ _ => rfl) (fun k hk _ => hB k hk)
theorem VD.At.fits {B : Nat → Prop} {W : World} : ∀ {v : VD} {u : Value}, v.At B W u → v.Fits := by
  intro v
  induction v using VD.induct with
  | h v ih =>
    intro u h
    rw [VD.at_iff] at h
    obtain ⟨a, c, _, _, h3, _, _, _, h7⟩ := h
    obtain ⟨k, n, s, l⟩ := v
    refine .mk k n s l h3 fun x hx => ?_
    obtain ⟨j, hj, rfl⟩ := List.getElem_of_mem hx
    obtain ⟨b, o, e0, e1, e2, e3, ha, hb, c0, c1, c2, c3, he⟩ := h7 j hj
    exact ih _ hx he

/-- A value's struct, in a block of its own. -/
structure VBox (B : Nat → Prop) (W : World) (g : Nat) (v : VD) (a : Option Addr) (c : Nat) : Prop where
  c0 : W.cell? ⟨g, 0, none⟩ = some (.int .u8 ((v.k : Nat) : Int))
  c1 : W.cell? ⟨g, 1, none⟩ = some (.int .i64 v.n)
  c2 : W.cell? ⟨g, 2, none⟩ = some (.string ⟨v.s.toArray⟩)
  c3 : W.cell? ⟨g, 3, none⟩ = some (.slice a v.l.length c)
  kb : v.k < 256
  nb : InR v.n
  sb : v.s.length ≤ maxLen
  lc : v.l.length ≤ c
  cm : c ≤ maxLen
  el : ∀ j (h : j < v.l.length), VD.Elem B W (v.l[j]'h) a j
theorem VBox.later {B : Nat → Prop} {W W' : World} {g : Nat} {v : VD} {a : Option Addr} {c : Nat} (h : VBox B W g v a c) (hb : Below W.heap.size W W') : VBox B W' g v a c := by
  have hc : ∀ {p : Addr} {x : Value}, W.cell? p = some x → W'.cell? p = some x := fun hx => (hb.cell (World.block_lt_of_cell? _ _ hx)).trans hx
  refine ⟨hc h.c0, hc h.c1, hc h.c2, hc h.c3, h.kb, h.nb, h.sb, h.lc, h.cm, fun j hj => ?_⟩
  obtain ⟨b, o, e0, e1, e2, e3, ha, hB, c0, c1, c2, c3, he⟩ := h.el j hj
  exact ⟨b, o, e0, e1, e2, e3, ha, hB, hc c0, hc c1, hc c2, hc c3, he.later hb⟩
/-- What 'Op.box' of a value makes. -/
theorem VD.At.box {B : Nat → Prop} {W : World} {v : VD} {u : Value} (h : v.At B W u) : ∃ a c, u = .agg #[.int .u8 ((v.k : Nat) : Int), .int .i64 v.n, .string ⟨v.s.toArray⟩, .slice a v.l.length c] ∧ v.l.length ≤ c ∧ ∀ t, VBox B (W.alloc (.cells #[.int .u8 ((v.k : Nat) : Int), .int .i64 v.n, .string ⟨v.s.toArray⟩, .slice a v.l.length c] t)) W.heap.size v a c := by
  have h0 := h
  rw [VD.at_iff] at h
  obtain ⟨a, c, rfl, h2, h3, h4, h5, h6, h7⟩ := h
  refine ⟨a, c, rfl, h5, fun t => ?_⟩
  have hb : Below W.heap.size W (W.alloc (.cells #[.int .u8 ((v.k : Nat) : Int), .int .i64 v.n, .string ⟨v.s.toArray⟩, .slice a v.l.length c] t)) := (Below.refl _ W).alloc (Nat.le_refl _) _
  have hB := heap_alloc_new W (.cells #[.int .u8 ((v.k : Nat) : Int), .int .i64 v.n, .string ⟨v.s.toArray⟩, .slice a v.l.length c] t)
  have hc : ∀ {p : Addr} {x : Value}, W.cell? p = some x → (W.alloc (.cells #[.int .u8 ((v.k : Nat) : Int), .int .i64 v.n, .string ⟨v.s.toArray⟩, .slice a v.l.length c] t)).cell? p = some x := fun hx => (hb.cell (World.block_lt_of_cell? _ _ hx)).trans hx
  refine ⟨cell_of_row _ _ 0 _ _ _ hB, cell_of_row _ _ 1 _ _ _ hB, cell_of_row _ _ 2 _ _ _ hB, cell_of_row _ _ 3 _ _ _ hB, h2, h3, h4, h5, h6, fun j hj => ?_⟩
  obtain ⟨b, o, e0, e1, e2, e3, ha, hB, c0, c1, c2, c3, he⟩ := h7 j hj
  exact ⟨b, o, e0, e1, e2, e3, ha, hB, hc c0, hc c1, hc c2, hc c3, he.later hb⟩
end Go.Proofs.YtobgmbfoofkdeaaDoor

namespace Go.Proofs.YtobgmbfoofkdeaaDoor
open Go.RowKit

set_option maxRecDepth 100000 in
set_option maxHeartbeats 2000000 in
theorem vRefParts_any (v : VD) : ∀ (B : Nat → Prop) (u : Value) (w : World), v.At B w u → v.parts ≤ 1000000 → Calls Tryd.prog 14 #[u] w fun e w' => e = .returned (.int .i64 ((v.parts : Nat) : Int)) ∧ Below w.heap.size w w' := by
  induction v using VD.induct with
  | h v ih =>
    intro B u w hA hm
    obtain ⟨a, c, rfl, hlc, hbox⟩ := hA.box
    have HBX := hide (hbox 24)
    have HB1 : Hid (Below w.heap.size w (w.alloc (.cells #[.int .u8 ((v.k : Nat) : Int), .int .i64 v.n, .string ⟨v.s.toArray⟩, .slice a v.l.length c] 24))) := (Below.refl _ w).alloc (Nat.le_refl _) _
    have HM := hide hm
    have HPM := hide v.parts_mk
    have HIH := hide ih
    clear hA hbox hm ih
    obtain ⟨n, hn⟩ : ∃ n, n = v.l.length := ⟨_, rfl⟩
    have HN := hide hn
    have hn6 : n ≤ 1000000 := by have h1 := VD.partsL_length v.l; have h2 := v.parts_mk; have := unhide HM; omega
    rw [← hn] at hlc ⊢ HBX HB1
    clear hn
    generalize (⟨v.s.toArray⟩ : ByteArray) = z at *
    go_enter Tryd.func14, Tryd.ntmps14
    go_wp2
    generalize hw1 : World.alloc w _ = w1 at HBX HB1 ⊢
    clear hw1
    go_loopw [3, 4] (fun s k W => ∃ j : Nat, j ≤ n ∧ k = .int .i64 ((j : Nat) : Int) ∧ s = .int .i64 ((VD.partsL (v.l.take j) + 1 : Nat) : Int) ∧ Below w1.heap.size w1 W) (fun _ k _ => n - (intOf k).toNat)
    case atStart => exact ⟨0, by omega, rfl, rfl, Below.refl _ _⟩
    case round =>
      obtain ⟨j, hj, rfl, rfl, hb⟩ := hrel
      have HB := hide hb
      have hbx := (unhide HBX).later hb
      have c3 := hbx.c3
      rw [← unhide HN] at c3
      have HEL := hide hbx.el
      clear hb hbx
      by_cases hlt : j < n
      · have hji : ((j : Nat) : Int) < ((n : Nat) : Int) := by omega
        have hjl : j < v.l.length := by have := unhide HN; omega
        obtain ⟨b, o, e0, e1, e2, e3, rfl, _, d0, d1, d2, d3, he⟩ := unhide HEL j hjl
        have HE := hide he
        have hmem : v.l[j] ∈ v.l := List.getElem_mem hjl
        have hpl := VD.parts_lt hmem
        have HT : Hid (VD.partsL (v.l.take (j + 1)) = VD.partsL (v.l.take j) + (v.l[j]).parts) := by
          show _ = _
          rw [List.take_succ_eq_append_getElem hjl, VD.partsL_append]
          simp [VD.partsL]
        have hle := VD.partsL_take v.l (j + 1)
        have HC : Hid (Calls Tryd.prog 14 #[.agg #[e0, e1, e2, e3]] wr fun e w' => e = .returned (.int .i64 (((v.l[j]).parts : Nat) : Int)) ∧ Below wr.heap.size wr w') := unhide HIH _ hmem B _ wr he (by have := unhide HM; omega)
        obtain ⟨S, hS⟩ : ∃ S, S = VD.partsL (v.l.take j) + 1 := ⟨_, rfl⟩
        have HSD := hide hS
        obtain ⟨p, hp⟩ : ∃ p, p = (v.l[j]).parts := ⟨_, rfl⟩
        have hb1 : ((S : Nat) : Int) + ((p : Nat) : Int) ≤ 1000000 := by have := unhide HM; have := unhide HPM; have := unhide HT; omega
        rw [← hp] at HC HT
        rw [← hS]
        clear he hle hpl hS hp hmem HEL
        go_wp2_with fail
        refine (unhide HC).mono ?_
        rintro e w2 ⟨rfl, hb2⟩
        have HB2 := hide ((unhide HB).trans (hb2.mono (unhide HB).size))
        clear hb2
        go_wp2_with fail
        exact ⟨⟨j + 1, by omega, by go_num, by rw [unhide HT]; congr 1; have := unhide HSD; omega, unhide HB2⟩, by simp [intOf]; omega⟩
      · have e : j = n := by omega
        have hji : ¬ ((j : Nat) : Int) < ((n : Nat) : Int) := by omega
        have HTT : Hid (VD.partsL (v.l.take j) + 1 = v.parts) := by show _ = _; rw [List.take_of_length_le (by have := unhide HN; omega), unhide HPM]
        rw [unhide HTT]
        have HFB := hide ((unhide HB1).trans ((unhide HB).mono (unhide HB1).size))
        clear e
        go_wp2
        go_ret
        exact ⟨rfl, unhide HFB⟩

set_option maxRecDepth 100000 in
set_option maxHeartbeats 2000000 in
theorem vRefDeep_any (v : VD) : ∀ (B : Nat → Prop) (u : Value) (w : World), v.At B w u → v.parts ≤ 1000000 → Calls Tryd.prog 33 #[u] w fun e w' => e = .returned (.int .i64 ((v.deep : Nat) : Int)) ∧ Below w.heap.size w w' := by
  induction v using VD.induct with
  | h v ih =>
    intro B u w hA hm
    obtain ⟨a, c, rfl, hlc, hbox⟩ := hA.box
    have HBX := hide (hbox 24)
    have HB1 : Hid (Below w.heap.size w (w.alloc (.cells #[.int .u8 ((v.k : Nat) : Int), .int .i64 v.n, .string ⟨v.s.toArray⟩, .slice a v.l.length c] 24))) := (Below.refl _ w).alloc (Nat.le_refl _) _
    have HM := hide hm
    have HDM := hide v.deep_mk
    have HDP := hide (VD.deep_le_parts v.parts v (Nat.le_refl _))
    have HIH := hide ih
    clear hA hbox hm ih
    obtain ⟨n, hn⟩ : ∃ n, n = v.l.length := ⟨_, rfl⟩
    have HN := hide hn
    have hn6 : n ≤ 1000000 := by have h1 := VD.partsL_length v.l; have h2 := v.parts_mk; have := unhide HM; omega
    rw [← hn] at hlc ⊢ HBX HB1
    clear hn
    generalize (⟨v.s.toArray⟩ : ByteArray) = z at *
    go_enter Tryd.func33, Tryd.ntmps33
    go_wp2
    generalize hw1 : World.alloc w _ = w1 at HBX HB1 ⊢
    clear hw1
    go_loopw [3, 4] (fun s k W => ∃ j : Nat, j ≤ n ∧ k = .int .i64 ((j : Nat) : Int) ∧ s = .int .i64 ((VD.deepL (v.l.take j) : Nat) : Int) ∧ Below w1.heap.size w1 W) (fun _ k _ => n - (intOf k).toNat)
    case atStart => exact ⟨0, by omega, rfl, rfl, Below.refl _ _⟩
    case round =>
      obtain ⟨j, hj, rfl, rfl, hb⟩ := hrel
      have HB := hide hb
      have hbx := (unhide HBX).later hb
      have c3 := hbx.c3
      rw [← unhide HN] at c3
      have HEL := hide hbx.el
      clear hb hbx
      have HPL := hide v.parts_mk
      by_cases hlt : j < n
      · have hji : ((j : Nat) : Int) < ((n : Nat) : Int) := by omega
        have hjl : j < v.l.length := by have := unhide HN; omega
        obtain ⟨b, o, e0, e1, e2, e3, rfl, _, d0, d1, d2, d3, he⟩ := unhide HEL j hjl
        have hmem : v.l[j] ∈ v.l := List.getElem_mem hjl
        have hpl := VD.parts_lt hmem
        have HT : Hid (VD.deepL (v.l.take (j + 1)) = Nat.max (VD.deepL (v.l.take j)) (v.l[j]).deep) := by
          show _ = _
          rw [List.take_succ_eq_append_getElem hjl, VD.deepL_append]
          simp [VD.deepL]
        have HC : Hid (Calls Tryd.prog 33 #[.agg #[e0, e1, e2, e3]] wr fun e w' => e = .returned (.int .i64 (((v.l[j]).deep : Nat) : Int)) ∧ Below wr.heap.size wr w') := unhide HIH _ hmem B _ wr he (by have := unhide HM; omega)
        generalize (v.l[j]).deep = p at *
        generalize VD.deepL (v.l.take j) = S at *
        clear he hpl hmem HEL
        go_wp2_with fail
        refine (unhide HC).mono ?_
        rintro e w2 ⟨rfl, hb2⟩
        have HB2 := hide ((unhide HB).trans (hb2.mono (unhide HB).size))
        clear hb2
        by_cases hgt : p > S
        · have hgi : ((p : Nat) : Int) > ((S : Nat) : Int) := by omega
          go_wp2_with fail
          exact ⟨⟨j + 1, by omega, by go_num, by rw [unhide HT]; congr 2; exact (Nat.max_eq_right (by omega)).symm, unhide HB2⟩, by simp [intOf]; omega⟩
        · have hgi : ¬ ((p : Nat) : Int) > ((S : Nat) : Int) := by omega
          go_wp2_with fail
          exact ⟨⟨j + 1, by omega, by go_num, by rw [unhide HT]; congr 2; exact (Nat.max_eq_left (by omega)).symm, unhide HB2⟩, by simp [intOf]; omega⟩
      · have e : j = n := by omega
        have hji : ¬ ((j : Nat) : Int) < ((n : Nat) : Int) := by omega
        have HTT : Hid (VD.deepL (v.l.take j) + 1 = v.deep) := by show _ = _; rw [List.take_of_length_le (by have := unhide HN; omega), unhide HDM]
        have HFB := hide ((unhide HB1).trans ((unhide HB).mono (unhide HB1).size))
        have hbd : ((VD.deepL (v.l.take j) : Nat) : Int) ≤ 1000000 := by have := unhide HTT; have := unhide HDP; have := unhide HM; omega
        generalize VD.deepL (v.l.take j) = S at *
        clear e
        go_wp2
        go_ret
        exact ⟨ret_int (by have := unhide HTT; omega), unhide HFB⟩
end Go.Proofs.YtobgmbfoofkdeaaDoor

namespace Go.Proofs.YtobgmbfoofkdeaaDoor
open Go.RowKit

theorem VD.kinds_0 {v : VD} (h : v.k = 0) : v.kinds = (v.s.isEmpty && v.l.isEmpty) := by
  obtain ⟨k, n, s, l⟩ := v
  have h : k = 0 := h
  subst h; simp only [VD.kinds, VD.s, VD.l]
theorem VD.kinds_1 {v : VD} (h : v.k = 1) : v.kinds = (decide (v.n = 0) && v.l.isEmpty && decide (v.s.length ≤ 100)) := by
  obtain ⟨k, n, s, l⟩ := v
  have h : k = 1 := h
  subst h; simp only [VD.kinds, VD.s, VD.l, VD.n]; rfl
theorem VD.kinds_2 {v : VD} (h : v.k = 2) : v.kinds = (decide (v.n = 0) && v.s.isEmpty && decide (v.l.length ≤ 40) && VD.kindsL v.l) := by
  obtain ⟨k, n, s, l⟩ := v
  have h : k = 2 := h
  subst h; simp only [VD.kinds, VD.s, VD.l, VD.n]; rfl
theorem VD.kinds_3 {v : VD} (h0 : v.k ≠ 0) (h1 : v.k ≠ 1) (h2 : v.k ≠ 2) : v.kinds = false := by
  obtain ⟨k, n, s, l⟩ := v
  simp only [VD.k] at h0 h1 h2
  match k, h0, h1, h2 with
  | 0, h, _, _ => exact absurd rfl h
  | 1, _, h, _ => exact absurd rfl h
  | 2, _, _, h => exact absurd rfl h
  | k + 3, _, _, _ => simp [VD.kinds]
theorem VD.kindsL_take_succ {l : List VD} {j : Nat} (h : j < l.length) : VD.kindsL (l.take (j + 1)) = (VD.kindsL (l.take j) && (l[j]).kinds) := by
  rw [List.take_succ_eq_append_getElem h]
  generalize l.take j = p
  induction p with
  | nil => simp [VD.kindsL]
  | cons x r ih => simp only [List.cons_append, VD.kindsL, ih, Bool.and_assoc]
theorem VD.kindsL_false {l : List VD} {j : Nat} (h : j < l.length) (hf : (l[j]).kinds = false) : VD.kindsL l = false := by
  rw [Bool.eq_false_iff]
  intro ht
  have := (VD.kindsL_iff l).1 ht _ (List.getElem_mem h)
  rw [hf] at this
  cases this

set_option maxRecDepth 100000 in
set_option maxHeartbeats 2000000 in
theorem vRefKinds_any (v : VD) : ∀ (B : Nat → Prop) (u : Value) (w : World), v.At B w u → v.parts ≤ 1000000 → Calls Tryd.prog 32 #[u] w fun e w' => e = .returned (.bool v.kinds) ∧ Below w.heap.size w w' := by
  induction v using VD.induct with
  | h v ih =>
    intro B u w hA hm
    obtain ⟨a, c, rfl, hlc, hbox⟩ := hA.box
    have HBX := hide (hbox 24)
    have HB1 : Hid (Below w.heap.size w (w.alloc (.cells #[.int .u8 ((v.k : Nat) : Int), .int .i64 v.n, .string ⟨v.s.toArray⟩, .slice a v.l.length c] 24))) := (Below.refl _ w).alloc (Nat.le_refl _) _
    have HM := hide hm
    have HIH := hide ih
    clear hA hbox hm ih
    obtain ⟨n, hn⟩ : ∃ n, n = v.l.length := ⟨_, rfl⟩
    have HN := hide hn
    have hn6 : n ≤ 1000000 := by have h1 := VD.partsL_length v.l; have h2 := v.parts_mk; have := unhide HM; omega
    rw [← hn] at hlc ⊢ HBX HB1
    clear hn
    have hsz : (⟨v.s.toArray⟩ : ByteArray).size = v.s.length := by simp [ByteArray.size]
    obtain ⟨m, hm⟩ : ∃ m, m = v.s.length := ⟨_, rfl⟩
    rw [← hm] at hsz
    have HMS := hide hm
    have hzl : (⟨v.s.toArray⟩ : ByteArray).toList = v.s := by rw [ByteArray.toList_eq]
    have HZL := hide hzl
    clear hm hzl
    obtain ⟨K, hK⟩ : ∃ K, K = v.k := ⟨_, rfl⟩
    have HK := hide hK
    rw [← hK] at HBX HB1 ⊢
    clear hK
    have hc := (unhide HBX).c0
    have hc1 := (unhide HBX).c1
    have hc2 := (unhide HBX).c2
    have hc3 := (unhide HBX).c3
    rw [← unhide HN] at hc3
    rw [← unhide HK] at hc
    generalize (⟨v.s.toArray⟩ : ByteArray) = z at *
    have hle : v.l.isEmpty = decide (n = 0) := by
      rw [unhide HN]
      cases v.l <;> simp
    have HLE := hide hle
    obtain ⟨se, hse⟩ : ∃ se, se = v.s.isEmpty := ⟨_, rfl⟩
    have hze : z.toList.isEmpty = se := by rw [unhide HZL, hse]
    have HSE := hide hse
    clear hle hse
    by_cases h0 : K = 0
    · have g0 : (((K : Nat) : Int) == 0) = true := by rw [beq_iff_eq]; omega
      have HKD : Hid (v.kinds = (se && decide (n = 0))) := by show _ = _; rw [VD.kinds_0 (v := v) ((unhide HK).symm.trans h0), unhide HLE, unhide HSE]
      clear h0
      cases se with
      | false =>
        go_enter Tryd.func32, Tryd.ntmps32
        go_wp2
        go_ret
        exact ⟨ret_bool (by rw [unhide HKD]; rfl), unhide HB1⟩
      | true =>
        by_cases hn0 : n = 0
        · have gn : (((n : Nat) : Int) == 0) = true := by rw [beq_iff_eq]; omega
          have HN0 := hide hn0
          clear hn0
          go_enter Tryd.func32, Tryd.ntmps32
          go_wp2
          go_ret
          exact ⟨ret_bool (by rw [unhide HKD, decide_eq_true (unhide HN0)]; rfl), unhide HB1⟩
        · have gn : (((n : Nat) : Int) == 0) = false := by rw [beq_eq_false_iff_ne]; omega
          have HN0 := hide hn0
          clear hn0
          go_enter Tryd.func32, Tryd.ntmps32
          go_wp2
          go_ret
          exact ⟨ret_bool (by rw [unhide HKD, decide_eq_false (unhide HN0)]; rfl), unhide HB1⟩
    have g0 : (((K : Nat) : Int) == 0) = false := by rw [beq_eq_false_iff_ne]; omega
    obtain ⟨N, hNn⟩ : ∃ N, N = v.n := ⟨_, rfl⟩
    rw [← hNn] at HBX hc1 ⊢ HB1
    have HNN := hide hNn
    clear hNn
    by_cases h1 : K = 1
    · have g1 : (((K : Nat) : Int) == 1) = true := by rw [beq_iff_eq]; omega
      have HKD : Hid (v.kinds = (decide (N = 0) && decide (n = 0) && decide (m ≤ 100))) := by show _ = _; rw [VD.kinds_1 (v := v) ((unhide HK).symm.trans h1), unhide HLE, unhide HMS, unhide HNN]
      clear h1 h0
      by_cases hN0 : N = 0
      · have gN : (N == 0) = true := beq_iff_eq.2 hN0
        have HN0 := hide hN0
        clear hN0
        by_cases hn0 : n = 0
        · have gn : (((n : Nat) : Int) == 0) = true := by rw [beq_iff_eq]; omega
          have Hn0 := hide hn0
          clear hn0
          by_cases hm1 : m ≤ 100
          · have gm : ((m : Nat) : Int) ≤ 100 := by omega
            go_enter Tryd.func32, Tryd.ntmps32
            go_wp2
            go_ret
            exact ⟨ret_bool (by rw [unhide HKD, decide_eq_true (unhide HN0), decide_eq_true (unhide Hn0)]; simp; omega), unhide HB1⟩
          · have gm : ¬ ((m : Nat) : Int) ≤ 100 := by omega
            go_enter Tryd.func32, Tryd.ntmps32
            go_wp2
            go_ret
            exact ⟨ret_bool (by rw [unhide HKD, decide_eq_true (unhide HN0), decide_eq_true (unhide Hn0)]; simp; omega), unhide HB1⟩
        · have gn : (((n : Nat) : Int) == 0) = false := by rw [beq_eq_false_iff_ne]; omega
          have Hn0 := hide hn0
          clear hn0
          go_enter Tryd.func32, Tryd.ntmps32
          go_wp2
          go_ret
          exact ⟨ret_bool (by rw [unhide HKD, decide_eq_false (unhide Hn0)]; simp), unhide HB1⟩
      · have gN : (N == 0) = false := beq_eq_false_iff_ne.2 hN0
        have HN0 := hide hN0
        clear hN0
        go_enter Tryd.func32, Tryd.ntmps32
        go_wp2
        go_ret
        exact ⟨ret_bool (by rw [unhide HKD, decide_eq_false (unhide HN0)]; simp), unhide HB1⟩
    have g1 : (((K : Nat) : Int) == 1) = false := by rw [beq_eq_false_iff_ne]; omega
    by_cases h2 : K = 2
    · have g2 : (((K : Nat) : Int) == 2) = true := by rw [beq_iff_eq]; omega
      have g2b : (((K : Nat) : Int) != 2) = false := by rw [bne, g2]; rfl
      have HKD : Hid (v.kinds = (decide (N = 0) && se && decide (n ≤ 40) && VD.kindsL v.l)) := by show _ = _; rw [VD.kinds_2 (v := v) ((unhide HK).symm.trans h2), unhide HSE, unhide HN, unhide HNN]
      clear h2 h1 h0
      by_cases hN0 : N = 0
      · have gN : (N == 0) = true := beq_iff_eq.2 hN0
        have gNb : (N != 0) = false := by rw [bne, gN]; rfl
        have HN0 := hide hN0
        clear hN0
        cases se with
        | false =>
          go_enter Tryd.func32, Tryd.ntmps32
          go_wp2
          go_ret
          exact ⟨ret_bool (by rw [unhide HKD]; simp), unhide HB1⟩
        | true =>
          by_cases hn40 : n ≤ 40
          · have gn : ¬ ((n : Nat) : Int) > 40 := by omega
            go_enter Tryd.func32, Tryd.ntmps32
            go_wp2
            generalize hw1 : World.alloc w _ = w1 at HBX HB1 ⊢
            clear hw1 hc hc1 hc2 hc3
            go_loopw [3] (fun k W => ∃ j : Nat, j ≤ n ∧ k = .int .i64 ((j : Nat) : Int) ∧ VD.kindsL (v.l.take j) = true ∧ Below w1.heap.size w1 W) (fun k _ => n - (intOf k).toNat)
            case atStart => exact ⟨0, by omega, rfl, rfl, Below.refl _ _⟩
            case round =>
              obtain ⟨j, hj, rfl, hkt, hb⟩ := hrel
              have HB := hide hb
              have HKT := hide hkt
              have hbx := (unhide HBX).later hb
              have c3 := hbx.c3
              rw [← unhide HN] at c3
              have HEL := hide hbx.el
              clear hb hbx hkt
              by_cases hlt : j < n
              · have hji : ((j : Nat) : Int) < ((n : Nat) : Int) := by omega
                have hjl : j < v.l.length := by have := unhide HN; omega
                obtain ⟨b, o, e0, e1, e2, e3, rfl, _, d0, d1, d2, d3, he⟩ := unhide HEL j hjl
                have hmem : v.l[j] ∈ v.l := List.getElem_mem hjl
                have hpl := VD.parts_lt hmem
                have HTS := hide (VD.kindsL_take_succ hjl)
                have HFL := hide (VD.kindsL_false (l := v.l) hjl)
                have HC : Hid (Calls Tryd.prog 32 #[.agg #[e0, e1, e2, e3]] wr fun e w' => e = .returned (.bool (v.l[j]).kinds) ∧ Below wr.heap.size wr w') := unhide HIH _ hmem B _ wr he (by have := unhide HM; omega)
                generalize (v.l[j]).kinds = p at *
                clear he hpl hmem HEL
                go_wp2_with fail
                refine (unhide HC).mono ?_
                rintro e w2 ⟨rfl, hb2⟩
                have HB2 := hide ((unhide HB).trans (hb2.mono (unhide HB).size))
                clear hb2
                cases p with
                | true =>
                  go_wp2_with fail
                  exact ⟨⟨j + 1, by omega, by go_num, by rw [unhide HTS, unhide HKT]; rfl, unhide HB2⟩, by simp [intOf]; omega⟩
                | false =>
                  have HFB := hide ((unhide HB1).trans ((unhide HB2).mono (unhide HB1).size))
                  go_wp2_with fail
                  go_ret
                  exact ⟨ret_bool (by rw [unhide HKD, show VD.kindsL v.l = false from unhide HFL (by trivial)]; simp), unhide HFB⟩
              · have e : j = n := by omega
                have hji : ¬ ((j : Nat) : Int) < ((n : Nat) : Int) := by omega
                have HFB := hide ((unhide HB1).trans ((unhide HB).mono (unhide HB1).size))
                have HKL : Hid (VD.kindsL v.l = true) := by
                  show _ = _
                  have h := unhide HKT
                  rw [List.take_of_length_le (by have := unhide HN; omega)] at h
                  exact h
                have Hn40 := hide hn40
                clear e hn40
                go_wp2
                go_ret
                exact ⟨ret_bool (by rw [unhide HKD, unhide HKL, decide_eq_true (unhide HN0), decide_eq_true (unhide Hn40)]; rfl), unhide HFB⟩
          · have gn : ((n : Nat) : Int) > 40 := by omega
            have Hn40 := hide hn40
            clear hn40
            go_enter Tryd.func32, Tryd.ntmps32
            go_wp2
            go_ret
            exact ⟨ret_bool (by rw [unhide HKD, decide_eq_false (unhide Hn40)]; simp), unhide HB1⟩
      · have gN : (N == 0) = false := beq_eq_false_iff_ne.2 hN0
        have gNb : (N != 0) = true := by rw [bne, gN]; rfl
        have HN0 := hide hN0
        clear hN0
        go_enter Tryd.func32, Tryd.ntmps32
        go_wp2
        go_ret
        exact ⟨ret_bool (by rw [unhide HKD, decide_eq_false (unhide HN0)]; simp), unhide HB1⟩
    · have g2 : (((K : Nat) : Int) == 2) = false := by rw [beq_eq_false_iff_ne]; omega
      have g2b : (((K : Nat) : Int) != 2) = true := by rw [bne, g2]; rfl
      have HKD : Hid (v.kinds = false) := VD.kinds_3 (by rw [← unhide HK]; exact h0) (by rw [← unhide HK]; exact h1) (by rw [← unhide HK]; exact h2)
      clear h0 h1 h2
      go_enter Tryd.func32, Tryd.ntmps32
      go_wp2
      go_ret
      exact ⟨ret_bool (by rw [unhide HKD]), unhide HB1⟩
end Go.Proofs.YtobgmbfoofkdeaaDoor

namespace Go.Proofs.YtobgmbfoofkdeaaDoor
open Go.RowKit

/-- A world in which all that was there in w0 is as it was. -/
def Later (w0 : World) := { W : World // Below w0.heap.size w0 W }
/-- The class of these worlds. -/
def IsLater (w0 : World) : World → Prop := fun W => ∃ x : Later w0, W = x.1
theorem Later.cell {w0 : World} {p : Addr} {v : Value} (h : w0.cell? p = some v) (x : Later w0) : x.1.cell? p = some v := (x.2.cell (World.block_lt_of_cell? _ _ h)).trans h
theorem Later.bytes {w0 : World} {u : Value} {bs : List UInt8} (h : Bytes w0 u bs) (x : Later w0) : Bytes x.1 u bs := h.kept fun k _ hk => x.2.block k hk
theorem Later.then {w0 : World} (x : Later w0) {W : World} (hb : Below x.1.heap.size x.1 W) : ∃ y : Later w0, W = y.1 := ⟨⟨W, x.2.trans (hb.mono x.2.size)⟩, rfl⟩
theorem Later.same {w0 : World} (x : Later w0) {W : World} (e : W = x.1) : ∃ y : Later w0, W = y.1 := ⟨x, e⟩
theorem wp_region_later {id : Nat} {Q : Exit → Act → World → Prop} {a : Act} {w : World} {l : List Oper} (hB : Region.lexB .any l.toArray = true)
    (h : wpQuiet Tryd.prog l.toArray (fun W => ∃ x : Later w, W = x.1) (fun a' => ∀ w', (∃ x : Later w, w' = x.1) → Q .normal a' w') l a) : (Code.region id l.toArray true).wp Tryd.prog Q a w :=
  wp_region_quiet (C := fun W => ∃ x : Later w, W = x.1) (by kernel_rfl) hB ⟨⟨_, (Below.refl _ w).drew⟩, rfl⟩ (by simpa using h)
end Go.Proofs.YtobgmbfoofkdeaaDoor

namespace Go.Proofs.YtobgmbfoofkdeaaDoor
open Go.RowKit

set_option maxRecDepth 100000 in
set_option maxHeartbeats 2000000 in
theorem vRefRight_any (v : VD) (B : Nat → Prop) (u : Value) (w : World) (hA : v.At B w u) (hm : v.parts ≤ 1000000) : Calls Tryd.prog 11 #[u] w fun e w' => e = .returned (.bool v.right) ∧ Below w.heap.size w w' := by
  have hA0 := hA
  obtain ⟨a, c, rfl, hlc, hbox⟩ := hA.box
  have HBX := hide (hbox 24)
  have HB1 : Hid (Below w.heap.size w (w.alloc (.cells #[.int .u8 ((v.k : Nat) : Int), .int .i64 v.n, .string ⟨v.s.toArray⟩, .slice a v.l.length c] 24))) := (Below.refl _ w).alloc (Nat.le_refl _) _
  have HA := hide hA0
  have HM := hide hm
  have HRD : Hid (v.right = (v.kinds && decide (v.deep ≤ 6) && decide (v.parts ≤ 200))) := rfl
  have HDP := hide (VD.deep_le_parts v.parts v (Nat.le_refl _))
  clear hA hA0 hbox hm
  obtain ⟨K, hK⟩ : ∃ K, K = v.k := ⟨_, rfl⟩
  obtain ⟨N, hNn⟩ : ∃ N, N = v.n := ⟨_, rfl⟩
  obtain ⟨n, hn⟩ : ∃ n, n = v.l.length := ⟨_, rfl⟩
  have c0 := (unhide HBX).c0
  have c1 := (unhide HBX).c1
  have c2 := (unhide HBX).c2
  have c3 := (unhide HBX).c3
  rw [← hK, ← hNn, ← hn] at HBX HB1 HA ⊢
  rw [← hK, ← hNn, ← hn] at c0 c1 c2 c3
  generalize (⟨v.s.toArray⟩ : ByteArray) = z at *
  clear hK hNn hn
  have HA1 := hide ((unhide HA).later (unhide HB1))
  have HC1 : Hid (∀ W, Below w.heap.size w W → Calls Tryd.prog 32 #[.agg #[.int .u8 ((K : Nat) : Int), .int .i64 N, .string z, .slice a n c]] W fun e w' => e = .returned (.bool v.kinds) ∧ Below W.heap.size W w') := fun W hW => vRefKinds_any v B _ W ((unhide HA).later hW) (unhide HM)
  have HC2 : Hid (∀ W, Below w.heap.size w W → Calls Tryd.prog 33 #[.agg #[.int .u8 ((K : Nat) : Int), .int .i64 N, .string z, .slice a n c]] W fun e w' => e = .returned (.int .i64 ((v.deep : Nat) : Int)) ∧ Below W.heap.size W w') := fun W hW => vRefDeep_any v B _ W ((unhide HA).later hW) (unhide HM)
  have HC3 : Hid (∀ W, Below w.heap.size w W → Calls Tryd.prog 14 #[.agg #[.int .u8 ((K : Nat) : Int), .int .i64 N, .string z, .slice a n c]] W fun e w' => e = .returned (.int .i64 ((v.parts : Nat) : Int)) ∧ Below W.heap.size W w') := fun W hW => vRefParts_any v B _ W ((unhide HA).later hW) (unhide HM)
  go_enter Tryd.func11, Tryd.ntmps11
  go_wp2_with fail
  refine (unhide HC1 _ (unhide HB1)).mono ?_
  rintro e w2 ⟨rfl, hb2⟩
  have HB2 := hide ((unhide HB1).trans (hb2.mono (unhide HB1).size))
  have hk : ∀ {p : Addr} {x : Value}, (w.alloc (.cells #[.int .u8 ((K : Nat) : Int), .int .i64 N, .string z, .slice a n c] 24)).cell? p = some x → w2.cell? p = some x := fun hx => (hb2.cell (World.block_lt_of_cell? _ _ hx)).trans hx
  have d0 := hk c0
  have d1 := hk c1
  have d2 := hk c2
  have d3 := hk c3
  clear hb2 c0 c1 c2 c3 hk HB1 HBX HA1
  generalize v.kinds = q at *
  cases q with
  | false =>
    go_wp2_with fail
    go_ret
    exact ⟨ret_bool (by rw [unhide HRD]; rfl), unhide HB2⟩
  | true =>
    go_wp2_with fail
    refine (unhide HC2 _ (unhide HB2)).mono ?_
    rintro e w3 ⟨rfl, hb3⟩
    have HB3 := hide ((unhide HB2).trans (hb3.mono (unhide HB2).size))
    have hk : ∀ {p : Addr} {x : Value}, w2.cell? p = some x → w3.cell? p = some x := fun hx => (hb3.cell (World.block_lt_of_cell? _ _ hx)).trans hx
    have f0 := hk d0
    have f1 := hk d1
    have f2 := hk d2
    have f3 := hk d3
    clear hb3 d0 d1 d2 d3 hk HB2
    by_cases hd : v.deep ≤ 6
    · have hdi : ((v.deep : Nat) : Int) ≤ 6 := by omega
      have HD := hide hd
      clear hd
      go_wp2_with fail
      refine (unhide HC3 _ (unhide HB3)).mono ?_
      rintro e w4 ⟨rfl, hb4⟩
      have HB4 := hide ((unhide HB3).trans (hb4.mono (unhide HB3).size))
      clear hb4 f0 f1 f2 f3 HB3
      by_cases hp : v.parts ≤ 200
      · have hpi : ((v.parts : Nat) : Int) ≤ 200 := by omega
        have HP := hide hp
        clear hp
        go_wp2_with fail
        go_ret
        exact ⟨ret_bool (by rw [unhide HRD, decide_eq_true (unhide HD), decide_eq_true (unhide HP)]; rfl), unhide HB4⟩
      · have hpi : ¬ ((v.parts : Nat) : Int) ≤ 200 := by omega
        have HP := hide hp
        clear hp
        go_wp2_with fail
        go_ret
        exact ⟨ret_bool (by rw [unhide HRD, decide_eq_false (unhide HP)]; simp; have := unhide HP; omega), unhide HB4⟩
    · have hdi : ¬ ((v.deep : Nat) : Int) ≤ 6 := by omega
      have HD := hide hd
      clear hd
      go_wp2_with fail
      go_ret
      exact ⟨ret_bool (by rw [unhide HRD, decide_eq_false (unhide HD)]; simp), unhide HB3⟩

theorem VD.same_take {l q : List VD} {j : Nat} (hl : j < l.length) (hq : j < q.length) : VD.sameL (l.take (j + 1)) (q.take (j + 1)) = (VD.sameL (l.take j) (q.take j) && (l[j]).same (q[j])) := by
  induction j generalizing l q with
  | zero =>
    match l, q, hl, hq with
    | x :: l, y :: q, _, _ => simp [VD.sameL]
  | succ j ih =>
    match l, q, hl, hq with
    | x :: l, y :: q, hl, hq =>
      have := ih (l := l) (q := q) (by simpa using hl) (by simpa using hq)
      simp only [List.take_succ_cons, VD.sameL, List.getElem_cons_succ, this, Bool.and_assoc]
theorem VD.same_false {l q : List VD} {j : Nat} (hl : j < l.length) (hq : j < q.length) (h : (l[j]).same (q[j]) = false) : VD.sameL l q = false := by
  induction j generalizing l q with
  | zero =>
    match l, q, hl, hq, h with
    | x :: l, y :: q, _, _, h =>
      have h : x.same y = false := h
      simp [VD.sameL, h]
  | succ j ih =>
    match l, q, hl, hq, h with
    | x :: l, y :: q, hl, hq, h =>
      have := ih (l := l) (q := q) (by simpa using hl) (by simpa using hq) (by simpa using h)
      simp [VD.sameL, this]
theorem VD.sameL_length {l q : List VD} (h : l.length ≠ q.length) : VD.sameL l q = false := by
  induction l generalizing q with
  | nil => cases q with
    | nil => exact absurd rfl h
    | cons y q => rfl
  | cons x l ih => cases q with
    | nil => rfl
    | cons y q => simp [VD.sameL, ih (q := q) (by simpa using h)]
theorem VD.same_mk (v w : VD) : v.same w = (decide (v.k = w.k) && decide (v.n = w.n) && decide (v.s = w.s) && VD.sameL v.l w.l) := by
  obtain ⟨k, n, s, l⟩ := v
  obtain ⟨k', n', s', l'⟩ := w
  simp only [VD.same, VD.k, VD.n, VD.s, VD.l]
  rfl

set_option maxRecDepth 100000 in
set_option maxHeartbeats 4000000 in
theorem vRefSame_any (v : VD) : ∀ (v2 : VD) (B B2 : Nat → Prop) (u u2 : Value) (w : World), v.At B w u → v2.At B2 w u2 → v.parts ≤ 1000000 → Calls Tryd.prog 16 #[u, u2] w fun e w' => e = .returned (.bool (v.same v2)) ∧ Below w.heap.size w w' := by
  induction v using VD.induct with
  | h v ih =>
    intro v2 B B2 u u2 w hA hA2 hm
    obtain ⟨a, c, rfl, hlc, hbox⟩ := hA.box
    obtain ⟨w1, hw1⟩ : ∃ w1, w1 = w.alloc (.cells #[.int .u8 ((v.k : Nat) : Int), .int .i64 v.n, .string ⟨v.s.toArray⟩, .slice a v.l.length c] 24) := ⟨_, rfl⟩
    have hB1 : Below w.heap.size w w1 := by rw [hw1]; exact (Below.refl _ w).alloc (Nat.le_refl _) _
    obtain ⟨a2, c2, rfl, hlc2, hbox2⟩ := (hA2.later hB1).box
    have hbx := hbox 24
    rw [← hw1] at hbx
    obtain ⟨w2, hw2⟩ : ∃ w2, w2 = w1.alloc (.cells #[.int .u8 ((v2.k : Nat) : Int), .int .i64 v2.n, .string ⟨v2.s.toArray⟩, .slice a2 v2.l.length c2] 24) := ⟨_, rfl⟩
    have hB2 : Below w1.heap.size w1 w2 := by rw [hw2]; exact (Below.refl _ w1).alloc (Nat.le_refl _) _
    have hbx2 := hbox2 24
    rw [← hw2] at hbx2
    have hs1 : w1.heap.size = w.heap.size + 1 := by rw [hw1]; simp
    rw [hs1] at hbx2
    have HBX := hide (hbx.later hB2)
    have HBX2 := hide hbx2
    have HB2 : Hid (Below w.heap.size w w2) := hB1.trans (hB2.mono hB1.size)
    have HM := hide hm
    have HIH := hide ih
    have HW2 := hide hw2
    rw [hw1] at HW2
    clear hA hA2 hbox hbox2 hbx hbx2 hB1 hB2 hw1 hw2 hs1 hm ih
    have HSM := hide (VD.same_mk v v2)
    have c0 := (unhide HBX).c0
    have c1 := (unhide HBX).c1
    have c2' := (unhide HBX).c2
    have c3 := (unhide HBX).c3
    have d0 := (unhide HBX2).c0
    have d1 := (unhide HBX2).c1
    have d2 := (unhide HBX2).c2
    have d3 := (unhide HBX2).c3
    have HEL := hide (unhide HBX).el
    have HEL2 := hide (unhide HBX2).el
    obtain ⟨K, hK⟩ : ∃ K, K = v.k := ⟨_, rfl⟩
    obtain ⟨N, hNn⟩ : ∃ N, N = v.n := ⟨_, rfl⟩
    obtain ⟨n, hn⟩ : ∃ n, n = v.l.length := ⟨_, rfl⟩
    obtain ⟨K2, hK2⟩ : ∃ K, K = v2.k := ⟨_, rfl⟩
    obtain ⟨N2, hN2⟩ : ∃ N, N = v2.n := ⟨_, rfl⟩
    obtain ⟨n2, hn2⟩ : ∃ n, n = v2.l.length := ⟨_, rfl⟩
    have HNL := hide hn
    have HNL2 := hide hn2
    have hn6 : n ≤ 1000000 := by have h1 := VD.partsL_length v.l; have h2 := v.parts_mk; have := unhide HM; omega
    obtain ⟨se, hse⟩ : ∃ se, se = decide (v.s = v2.s) := ⟨_, rfl⟩
    have hzz : ((⟨v.s.toArray⟩ : ByteArray).toList == (⟨v2.s.toArray⟩ : ByteArray).toList) = se := by
      rw [ByteArray.toList_eq, ByteArray.toList_eq, hse, Bool.eq_iff_iff]; simp
    rw [← hse] at HSM
    rw [← hK, ← hK2, ← hNn, ← hN2] at HSM
    rw [← hK, ← hNn, ← hn] at HW2 ⊢
    rw [← hK2, ← hN2, ← hn2] at HW2 ⊢
    rw [← hK] at c0
    rw [← hNn] at c1
    rw [← hn] at c3 hlc
    rw [← hK2] at d0
    rw [← hN2] at d1
    rw [← hn2] at d3 hlc2
    generalize (⟨v.s.toArray⟩ : ByteArray) = z at *
    generalize (⟨v2.s.toArray⟩ : ByteArray) = z2 at *
    have hzn : (z.toList != z2.toList) = !se := by rw [bne, hzz]
    clear hK hNn hn hK2 hN2 hn2 hse HBX HBX2
    go_enter Tryd.func16, Tryd.ntmps16
    go_upto_region 1 with fail
    rw [← unhide HW2]
    clear HW2
    by_cases hk : K = K2
    case neg =>
      have gk : (((K : Nat) : Int) == ((K2 : Nat) : Int)) = false := by rw [beq_eq_false_iff_ne]; omega
      have gk2 : (((K : Nat) : Int) != ((K2 : Nat) : Int)) = true := by rw [bne, gk]; rfl
      have gk3 : (K == K2) = false := beq_eq_false_iff_ne.2 hk
      have gk4 : (K != K2) = true := by rw [bne, gk3]; rfl
      have HD : Hid (v.same v2 = false) := by show _ = _; rw [unhide HSM, decide_eq_false hk]; simp
      clear hk
      go_wp2_with fail
      go_ret
      exact ⟨ret_bool (unhide HD).symm, unhide HB2⟩
    have gk : (((K : Nat) : Int) == ((K2 : Nat) : Int)) = true := by rw [beq_iff_eq]; omega
    have gk2 : (((K : Nat) : Int) != ((K2 : Nat) : Int)) = false := by rw [bne, gk]; rfl
    have gk3 : (K == K2) = true := beq_iff_eq.2 hk
    have gk4 : (K != K2) = false := by rw [bne, gk3]; rfl
    have HKK := hide hk
    clear hk
    by_cases hn : N = N2
    case neg =>
      have gn : (N == N2) = false := beq_eq_false_iff_ne.2 hn
      have gn2 : (N != N2) = true := by rw [bne, gn]; rfl
      have HD : Hid (v.same v2 = false) := by show _ = _; rw [unhide HSM, decide_eq_false hn]; simp
      clear hn
      go_wp2_with fail
      go_ret
      exact ⟨ret_bool (unhide HD).symm, unhide HB2⟩
    have gn : (N == N2) = true := beq_iff_eq.2 hn
    have gn2 : (N != N2) = false := by rw [bne, gn]; rfl
    have HNE := hide hn
    clear hn
    cases se with
    | false =>
      have hzn : (z.toList != z2.toList) = true := hzn
      have HD : Hid (v.same v2 = false) := by show _ = _; rw [unhide HSM]; simp
      go_wp2_with fail
      go_ret
      exact ⟨ret_bool (unhide HD).symm, unhide HB2⟩
    | true =>
      have hzn : (z.toList != z2.toList) = false := hzn
      by_cases hl : n = n2
      case neg =>
        have gl : (((n : Nat) : Int) == ((n2 : Nat) : Int)) = false := by rw [beq_eq_false_iff_ne]; omega
        have gl2 : (((n : Nat) : Int) != ((n2 : Nat) : Int)) = true := by rw [bne, gl]; rfl
        have gl3 : (n == n2) = false := beq_eq_false_iff_ne.2 hl
        have gl4 : (n != n2) = true := by rw [bne, gl3]; rfl
        have HD : Hid (v.same v2 = false) := by show _ = _; rw [unhide HSM, VD.sameL_length (by rw [← unhide HNL, ← unhide HNL2]; exact hl)]; simp
        clear hl
        go_wp2_with fail
        go_ret
        exact ⟨ret_bool (unhide HD).symm, unhide HB2⟩
      have gl : (((n : Nat) : Int) == ((n2 : Nat) : Int)) = true := by rw [beq_iff_eq]; omega
      have gl2 : (((n : Nat) : Int) != ((n2 : Nat) : Int)) = false := by rw [bne, gl]; rfl
      have gl3 : (n == n2) = true := beq_iff_eq.2 hl
      have gl4 : (n != n2) = false := by rw [bne, gl3]; rfl
      have HLL := hide hl
      clear hl
      have HSM2 : Hid (v.same v2 = VD.sameL v.l v2.l) := by show _ = _; rw [unhide HSM, decide_eq_true (unhide HKK), decide_eq_true (unhide HNE)]; simp
      clear HSM
      go_wp2
      clear hzz hzn gk gk2 gk3 gk4 gn gn2 gl gl2 gl3 gl4 c0 c1 c2' d0 d1 d2
      go_loopw [5] (fun k W => ∃ j : Nat, j ≤ n ∧ k = .int .i64 ((j : Nat) : Int) ∧ VD.sameL (v.l.take j) (v2.l.take j) = true ∧ Below w2.heap.size w2 W) (fun k _ => n - (intOf k).toNat)
      case atStart => exact ⟨0, by omega, rfl, rfl, Below.refl _ _⟩
      case round =>
        obtain ⟨j, hj, rfl, hkt, hb⟩ := hrel
        have HB := hide hb
        have HKT := hide hkt
        have hk : ∀ {p : Addr} {x : Value}, w2.cell? p = some x → wr.cell? p = some x := fun hx => (hb.cell (World.block_lt_of_cell? _ _ hx)).trans hx
        have f3 := hk c3
        have h3 := hk d3
        by_cases hlt : j < n
        · have hji : ((j : Nat) : Int) < ((n : Nat) : Int) := by omega
          have hjl : j < v.l.length := by have := unhide HNL; omega
          have hjl2 : j < v2.l.length := by have := unhide HNL2; have := unhide HLL; omega
          have hjn2 : j < n2 := by have := unhide HLL; omega
          obtain ⟨b, o, e0, e1, e2, e3, rfl, _, x0, x1, x2, x3, he⟩ := unhide HEL j hjl
          obtain ⟨b', o', e0', e1', e2', e3', rfl, _, y0, y1, y2, y3, he'⟩ := unhide HEL2 j hjl2
          have hmem : v.l[j] ∈ v.l := List.getElem_mem hjl
          have hpl := VD.parts_lt hmem
          have HTS := hide (VD.same_take hjl hjl2)
          have HFL := hide (VD.same_false (l := v.l) (q := v2.l) hjl hjl2)
          have HC : Hid (∀ W, Below w2.heap.size w2 W → Calls Tryd.prog 16 #[.agg #[e0, e1, e2, e3], .agg #[e0', e1', e2', e3']] W fun e w' => e = .returned (.bool ((v.l[j]).same (v2.l[j]))) ∧ Below W.heap.size W w') := fun W hW => unhide HIH _ hmem _ B B2 _ _ W (he.later hW) (he'.later hW) (by have := unhide HM; omega)
          generalize (v.l[j]).same (v2.l[j]) = p at *
          have l3 := Later.cell f3
          have k3 := Later.cell h3
          have lx0 := Later.cell (hk x0)
          have lx1 := Later.cell (hk x1)
          have lx2 := Later.cell (hk x2)
          have lx3 := Later.cell (hk x3)
          have ly0 := Later.cell (hk y0)
          have ly1 := Later.cell (hk y1)
          have ly2 := Later.cell (hk y2)
          have ly3 := Later.cell (hk y3)
          have hne : Nonempty (Later wr) := ⟨⟨wr, Below.refl _ _⟩⟩
          clear he he' hpl hmem hk x0 x1 x2 x3 y0 y1 y2 y3 c3 d3 hkt hb
          go_upto_region 6 with fail
          go_cut [52] (fun v wx => v = .bool (!p) ∧ Below wr.heap.size wr wx)
          case first =>
            refine wp_region_later (by kernel_rfl) ?_
            repeat (go_big_quiet_step ((rename_i q; (go_at_call 16; refine (unhide HC _ ((unhide HB).trans (q.2.mono (unhide HB).size))).mono ?_; rintro e w11 ⟨rfl, hb11⟩; exact ⟨rfl, q.then hb11⟩))))
            refine wpQuiet_nil ?_
            rintro _ ⟨q, rfl⟩
            have HFIN : Hid (Below wr.heap.size wr q.1) := q.2
            generalize q.1 = W20 at *
            go_wp2_with fail
            go_meet
            exact ⟨rfl, unhide HFIN⟩
          obtain ⟨rfl, hbw⟩ := hcut
          have HBW := hide ((unhide HB).trans (hbw.mono (unhide HB).size))
          clear hbw l3 k3 lx0 lx1 lx2 lx3 ly0 ly1 ly2 ly3 hne f3 h3
          cases p with
          | true =>
            go_wp2_with fail
            exact ⟨⟨j + 1, by omega, by go_num, by rw [unhide HTS, unhide HKT]; rfl, unhide HBW⟩, by simp [intOf]; omega⟩
          | false =>
            have HFB := hide ((unhide HB2).trans ((unhide HBW).mono (unhide HB2).size))
            have HD : Hid (v.same v2 = false) := by show _ = _; rw [unhide HSM2]; exact unhide HFL rfl
            go_wp2_with fail
            go_ret
            exact ⟨ret_bool (unhide HD).symm, unhide HFB⟩
        · have e : j = n := by omega
          have hji : ¬ ((j : Nat) : Int) < ((n : Nat) : Int) := by omega
          have HFB := hide ((unhide HB2).trans ((unhide HB).mono (unhide HB2).size))
          have HD : Hid (v.same v2 = true) := by
            show _ = _
            rw [unhide HSM2, ← unhide HKT, List.take_of_length_le (by have := unhide HNL; omega), List.take_of_length_le (by have := unhide HNL2; have := unhide HLL; omega)]
          clear e hk hkt hb
          go_wp2
          go_ret
          exact ⟨ret_bool (unhide HD).symm, unhide HFB⟩
end Go.Proofs.YtobgmbfoofkdeaaDoor

namespace Go.Proofs.YtobgmbfoofkdeaaDoor
open Go.RowKit

theorem wRefPlain_any (n : Int) (hn : InR n) (w : World) : Calls Tryd.prog 54 #[.int .i64 n] w fun e w' => e = .returned (.int .u64 (zz n : Nat)) ∧ w' = w := by
  obtain ⟨h1, h2⟩ := hn
  by_cases h : n < 0
  · have HZ : Hid ((zz n : Int) = -2 * n - 1) := by show _ = _; unfold zz; rw [if_pos h]; omega
    have h' : ¬ n ≥ 0 := by omega
    go_enter Tryd.func54, Tryd.ntmps54
    go_wp2
    go_ret
    refine ⟨ret_int ?_, rfl⟩
    rw [unhide HZ]
    try simp only [IntKind.wrap_u64]
    omega
  · have HZ : Hid ((zz n : Int) = 2 * n) := by show _ = _; unfold zz; rw [if_neg h]; omega
    have h' : n ≥ 0 := by omega
    go_enter Tryd.func54, Tryd.ntmps54
    go_wp2
    go_ret
    refine ⟨ret_int ?_, rfl⟩
    rw [unhide HZ]

set_option maxRecDepth 100000 in
set_option maxHeartbeats 2000000 in
theorem wRefNum_any (n : Int) (hn : InR n) (w : World) : Calls Tryd.prog 37 #[.int .i64 n] w fun e w' => ∃ r, e = .returned r ∧ Own w r (numB n) w' := by
  obtain ⟨ti, hti, hz0, hz1, hz2⟩ := infoByte
  have HN := hide hn
  have HT := hide (numB_ten hn)
  clear hn
  go_enter Tryd.func37, Tryd.ntmps37
  go_wp2_with fail
  refine (wRefPlain_any n (unhide HN) _).mono ?_
  rintro e w1 ⟨rfl, hw⟩
  rw [hw]
  clear hw w1
  have HZL := hide (zz_lt (unhide HN))
  go_wp2
  go_loopw [3, 4] (fun u r W => ∃ (v : Nat) (pre : List UInt8), u = .int .u64 ((v : Nat) : Int) ∧ v < 18446744073709551616 ∧ pre ++ grp v = numB n ∧ Own w r pre W) (fun u _ _ => (intOf u).toNat)
  case atStart => exact ⟨zz n, [], rfl, unhide HZL, rfl, Own.start w⟩
  case round =>
    obtain ⟨v, pre, rfl, hv, he, hO⟩ := hrel
    have HV := hide hv
    have HO := hide hO
    have HL : Hid (pre.length < (numB n).length) := by
      show _ < _
      have h1 := congrArg List.length he
      have := grp_pos v
      rw [List.length_append] at h1
      omega
    by_cases hlt : 128 ≤ v
    · have hge : ((v : Nat) : Int) ≥ 128 := by omega
      have hx : ((v : Nat) : Int) % 128 + 128 = (((UInt8.ofNat (128 + v % 128)).toNat : Nat) : Int) := by rw [u8_toNat (by omega)]; omega
      have HE : Hid ((pre ++ [UInt8.ofNat (128 + v % 128)]) ++ grp (v / 128) = numB n) := by
        show _ = _
        rw [← he, grp_high hlt, List.append_assoc]; rfl
      generalize UInt8.ofNat (128 + v % 128) = y at *
      have HYB := hide (bytes_one wr y)
      have HOA := hide ((unhide HO).alloc (.cells #[.int .u8 (y.toNat : Nat)] 5))
      clear hO he
      go_wp2_with (at_builtin; refine wpList_append_bytes _ rfl _ _ 25 rfl 5 ti (.int .u8 0) Tryd.underlying25 hti hz0 hz1 hz2 rfl _ pre rfl (unhide HOA).own _ [y] rfl (unhide HYB) (by have := unhide HL; have := unhide HT; simp; omega) ?_)
      rintro v' w2 r1 r2 r3
      have HO2 := hide ((unhide HOA).grown (cs := pre ++ [y]) (by simpa using r1) r2 (by simpa using r3))
      clear r1 r2 r3
      go_wp2
      exact ⟨⟨v / 128, _, by go_num, by omega, unhide HE, unhide HO2⟩, by simp [intOf]; omega⟩
    · have hge : ¬ ((v : Nat) : Int) ≥ 128 := by omega
      have hx : Hid (((v : Nat) : Int) = (((UInt8.ofNat v).toNat : Nat) : Int)) := by show _ = _; rw [u8_toNat (by omega)]
      have HE : Hid (pre ++ [UInt8.ofNat v] = numB n) := by
        show _ = _
        rw [← he, grp_low (by omega)]
      generalize UInt8.ofNat v = y at *
      have HYB : Hid (Bytes (wr.alloc (.cells #[.int .u8 ((v : Nat) : Int)] 5)) (.slice (some ⟨wr.heap.size, 0, none⟩) 1 1) [y]) := by rw [unhide hx]; exact bytes_one wr y
      have HOA := hide ((unhide HO).alloc (.cells #[.int .u8 ((v : Nat) : Int)] 5))
      clear hO he hv
      go_wp2_with (at_builtin; refine wpList_append_bytes _ rfl _ _ 25 rfl 5 ti (.int .u8 0) Tryd.underlying25 hti hz0 hz1 hz2 rfl _ pre rfl (unhide HOA).own _ [y] rfl (unhide HYB) (by have := unhide HL; have := unhide HT; simp; omega) ?_)
      rintro v' w2 r1 r2 r3
      have HO2 := hide ((unhide HOA).grown (cs := pre ++ [y]) (by simpa using r1) r2 (by simpa using r3))
      clear r1 r2 r3
      go_wp2
      go_ret
      refine ⟨_, rfl, ?_⟩
      rw [← unhide HE]
      exact unhide HO2

set_option maxRecDepth 100000 in
set_option maxHeartbeats 2000000 in
theorem wRefText_any (s : List UInt8) (hs : s.length ≤ 1048576) (w : World) : Calls Tryd.prog 38 #[.string ⟨s.toArray⟩] w fun e w' => ∃ r, e = .returned r ∧ Own w r (textB s) w' := by
  obtain ⟨ti, hti, hz0, hz1, hz2⟩ := infoByte
  have hsz : (⟨s.toArray⟩ : ByteArray).size = s.length := by simp [ByteArray.size]
  have hget : ∀ j (h : j < s.length) (h' : j < (⟨s.toArray⟩ : ByteArray).size), (⟨s.toArray⟩ : ByteArray)[j]'h' = s[j]'h := fun j h h' => by
    show s.toArray[j] = s[j]'h
    simp
  obtain ⟨z, hz⟩ : ∃ z : ByteArray, z = ⟨s.toArray⟩ := ⟨_, rfl⟩
  rw [← hz] at hsz hget ⊢
  have HGET := hide hget
  have HN : Hid (InR ((s.length : Nat) : Int)) := by show InR _; unfold InR; omega
  have HT := hide (numB_ten (unhide HN))
  have HTB : Hid (textB s = numB ((s.length : Nat) : Int) ++ s) := rfl
  obtain ⟨n, hn⟩ : ∃ n, n = s.length := ⟨_, rfl⟩
  rw [← hn] at hsz hs HN HT HTB
  have HNS := hide hn
  clear hz hget hn
  go_enter Tryd.func38, Tryd.ntmps38
  go_wp2_with fail
  refine (wRefNum_any _ (unhide HN) _).mono ?_
  rintro e w1 ⟨r, rfl, hO⟩
  have HO := hide hO
  clear hO
  go_wp2
  go_loopw [3, 4] (fun r k W => ∃ j : Nat, j ≤ n ∧ k = .int .i64 j ∧ Own w r (numB ((n : Nat) : Int) ++ s.take j) W) (fun _ k _ => n - (intOf k).toNat)
  case atStart => exact ⟨0, by omega, rfl, by simpa using unhide HO⟩
  case round =>
    obtain ⟨j, hj, rfl, hO⟩ := hrel
    have HO := hide hO
    clear hO
    by_cases hlt : j < n
    · have hk1 : (j : Int) < (n : Int) := by omega
      have hjz : j < z.size := by omega
      have HS : Hid (s.take (j + 1) = s.take j ++ [z[j]'hjz]) := by
        show _ = _
        rw [List.take_succ_eq_append_getElem (by have := unhide HNS; omega), unhide HGET j (by have := unhide HNS; omega) hjz]
      have HSL : Hid ((s.take j).length ≤ n) := by show _ ≤ _; rw [List.length_take]; omega
      have HYB := hide (bytes_one wr (z[j]'hjz))
      have HOA := hide ((unhide HO).alloc (.cells #[.int .u8 ((z[j]'hjz).toNat : Nat)] 5))
      go_wp2_with (at_builtin; refine wpList_append_bytes _ rfl _ _ 25 rfl 5 ti (.int .u8 0) Tryd.underlying25 hti hz0 hz1 hz2 rfl _ _ rfl (unhide HOA).own _ [z[j]'hjz] rfl (unhide HYB) (by have := unhide HSL; have := unhide HT; simp only [List.length_append, List.length_singleton]; omega) ?_)
      rintro v' w2 r1 r2 r3
      have HO2 := hide ((unhide HOA).grown (cs := (numB ((n : Nat) : Int) ++ s.take j) ++ [z[j]'hjz]) (by simpa using r1) r2 (by simpa using r3))
      clear r1 r2 r3
      go_wp2
      exact ⟨⟨j + 1, by omega, by go_num, by rw [unhide HS, ← List.append_assoc]; exact unhide HO2⟩, by simp [intOf]; omega⟩
    · have e : j = n := by omega
      subst e
      have HTK : Hid (s.take j = s) := List.take_of_length_le (by have := unhide HNS; omega)
      rw [unhide HTK] at HO
      go_wp2
      go_ret
      refine ⟨_, rfl, ?_⟩
      rw [unhide HTB]
      exact unhide HO
end Go.Proofs.YtobgmbfoofkdeaaDoor
