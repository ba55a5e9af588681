/- What a disk of package disk is in memory: its cells, its two rows, its two slots; and how it stands behind each kind of store. Our own definitions; no statement of the seat is proved here. -/
import Derived.Test.YtoabpjdpdcpdlaaGenStep
namespace Go.Proofs.Ytoabpjdpdcpdlaa
open Go.RowKit

/-- What a disk holds: of segment i the bytes x i, of which safe i are safe; of slot i what is safe (sf i), and what is shown (sh i). -/
structure AD where
  cap : Int
  x : Nat → List UInt8
  safe : Nat → Nat
  sf : Nat → List UInt8
  sh : Nat → List UInt8
  calls : Int
  part : Int
  dead : Bool

/-- The numbers fit. -/
structure AD.Ok (A : AD) : Prop where
  safe : ∀ i, i < 2 → A.safe i ≤ (A.x i).length
  room : ((A.x 0).length : Int) + (A.x 1).length ≤ A.cap
  cap : A.cap ≤ 1048576
  sf : ∀ i, i < 2 → (A.sf i).length = 32
  sh : ∀ i, i < 2 → (A.sh i).length = 32
  calls : -1 ≤ A.calls ∧ A.calls ≤ 9223372036854775807

/-- A function with another value at one place. -/
def upd {α : Type} (f : Nat → α) (i : Nat) (x : α) : Nat → α := fun j => if j = i then x else f j
theorem upd_same {α : Type} (f : Nat → α) (i : Nat) (x : α) : upd f i x i = x := if_pos rfl
theorem upd_other {α : Type} (f : Nat → α) {i j : Nat} (x : α) (h : j ≠ i) : upd f i x j = f j := if_neg h

/-- The disk at block p: it owns the blocks of D, among them p, and the rows of its segments, which are the slices v 0 and v 1. -/
structure DiskIs (w : World) (p : Nat) (D : Nat → Prop) (v : Nat → Value) (A : AD) : Prop where
  blk : ∃ cs, w.heap[p]? = some (.cells cs 79 (0, 0))
  self : w.cell? ⟨p, 0, none⟩ = some (.pointer (some ⟨p, 0, none⟩))
  cap : w.cell? ⟨p, 1, none⟩ = some (.int .i64 A.cap)
  dat : ∀ i, i < 2 → w.cell? ⟨p, 2 + 2 * i, none⟩ = some (v i)
  saf : ∀ i, i < 2 → w.cell? ⟨p, 3 + 2 * i, none⟩ = some (.int .i64 (A.safe i))
  slf : ∀ i, i < 2 → w.rangeAt p (6 + 64 * i) ((A.sf i).map bv)
  slh : ∀ i, i < 2 → w.rangeAt p (38 + 64 * i) ((A.sh i).map bv)
  calls : w.cell? ⟨p, 134, none⟩ = some (.int .i64 A.calls)
  part : w.cell? ⟨p, 135, none⟩ = some (.int .i64 A.part)
  dead : w.cell? ⟨p, 136, none⟩ = some (.bool A.dead)
  row : ∀ i, i < 2 → w.ownsRow 0 5 1 (v i) (A.x i).length ((A.x i).map bv)
  own : D p
  rowD : ∀ i k, i < 2 → (v i).ownBlock = some k → D k ∧ k ≠ p
  dis : ∀ k, (v 0).ownBlock = some k → (v 1).ownBlock ≠ some k
  lt : ∀ k, D k → k < w.heap.size
  ok : A.Ok

section
variable {w : World} {p : Nat} {D : Nat → Prop} {v : Nat → Value} {A : AD}

theorem DiskIs.frz (h : DiskIs w p D v A) (o : Nat) : w.frozen? ⟨p, o, none⟩ = false := by
  obtain ⟨cs, hc⟩ := h.blk
  exact frozen_of_row w p o cs _ hc

/-- Whatever leaves the blocks of D alone leaves the disk. -/
theorem DiskIs.kept {w' : World} (h : DiskIs w p D v A) (hs : w.heap.size ≤ w'.heap.size) (hk : ∀ k, D k → w'.heap[k]? = w.heap[k]?) : DiskIs w' p D v A := by
  have hc : ∀ o, w'.cell? ⟨p, o, none⟩ = w.cell? ⟨p, o, none⟩ := fun o => World.cell?_of_block (a := ⟨p, o, none⟩) (hk p h.own)
  have hr : ∀ o cs, w.rangeAt p o cs → w'.rangeAt p o cs := fun o cs hr j u hu => by rw [hc]; exact hr j u hu
  obtain ⟨cs, hb⟩ := h.blk
  refine ⟨⟨cs, by rw [hk p h.own]; exact hb⟩, by rw [hc]; exact h.self, by rw [hc]; exact h.cap, fun i hi => by rw [hc]; exact h.dat i hi, fun i hi => by rw [hc]; exact h.saf i hi, fun i hi => hr _ _ (h.slf i hi), fun i hi => hr _ _ (h.slh i hi),
    by rw [hc]; exact h.calls, by rw [hc]; exact h.part, by rw [hc]; exact h.dead, fun i hi => ?_, h.own, h.rowD, h.dis, fun k hd => Nat.lt_of_lt_of_le (h.lt k hd) hs, h.ok⟩
  have hrow := h.row i hi
  refine ⟨hrow.1, ?_⟩
  rcases hrow.2 with hn | ⟨g, cap, cur, hv, hb0, hg, rest⟩
  · exact .inl hn
  · refine .inr ⟨g, cap, cur, hv, hb0, ?_, rest⟩
    rw [hk g (h.rowD i g hi (by rw [hv]; rfl)).1]; exact hg

theorem DiskIs.alloc (h : DiskIs w p D v A) (o : Obj) : DiskIs (w.alloc o) p D v A :=
  h.kept (by simp) fun k hk => Below.heap_alloc _ _ _ (h.lt k hk)
theorem DiskIs.drew (h : DiskIs w p D v A) : DiskIs w.drew p D v A := h.kept (Nat.le_refl _) fun _ _ => rfl
theorem DiskIs.setOther (h : DiskIs w p D v A) {a : Addr} (ha : ¬ D a.block) (u : Value) : DiskIs (w.setCell a u) p D v A :=
  h.kept (by simp [World.setCell]) fun k hk => Below.heap_setCell _ _ _ _ (fun e => ha (e ▸ hk))

/-- The rows stand where only block p is written. -/
theorem DiskIs.row_set (h : DiskIs w p D v A) (o : Nat) (u : Value) (i : Nat) (hi : i < 2) : (w.setCell ⟨p, o, none⟩ u).ownsRow 0 5 1 (v i) (A.x i).length ((A.x i).map bv) := by
  have hrow := h.row i hi
  refine ⟨hrow.1, ?_⟩
  rcases hrow.2 with hn | ⟨g, cap, cur, hv, hb0, hg, rest⟩
  · exact .inl hn
  · refine .inr ⟨g, cap, cur, hv, hb0, ?_, rest⟩
    rw [Below.heap_setCell _ _ _ _ (h.rowD i g hi (by rw [hv]; rfl)).2]; exact hg

theorem cell_set_ne (w : World) (p a b : Nat) (u : Value) (hne : b ≠ a) : (w.setCell ⟨p, a, none⟩ u).cell? ⟨p, b, none⟩ = w.cell? ⟨p, b, none⟩ :=
  World.cell?_setCell_other _ _ _ _ (fun e => hne (by injection e with _ e2 _; exact e2.symm))

theorem range_set_ne {w : World} {p o : Nat} {cs : List Value} (h : w.rangeAt p o cs) (a : Nat) (u : Value) (hne : a < o ∨ o + cs.length ≤ a) : (w.setCell ⟨p, a, none⟩ u).rangeAt p o cs := fun j x hx => by
  have hj : j < cs.length := (List.getElem?_eq_some_iff.1 hx).1
  rw [cell_set_ne _ _ _ _ _ (by omega)]; exact h j x hx

theorem blk_set {w : World} {p : Nat} {t : TypeId} (h : ∃ cs, w.heap[p]? = some (.cells cs t (0, 0))) (a : Nat) (u : Value) : ∃ cs, (w.setCell ⟨p, a, none⟩ u).heap[p]? = some (.cells cs t (0, 0)) := by
  obtain ⟨cs, h⟩ := h
  exact ⟨_, heap_setCell_same w p a cs t u h⟩

theorem DiskIs.setDead (h : DiskIs w p D v A) (b : Bool) : DiskIs (w.setCell ⟨p, 136, none⟩ (.bool b)) p D v { A with dead := b } := by
  refine ⟨blk_set h.blk _ _, by rw [cell_set_ne _ _ _ _ _ (by omega)]; exact h.self, by rw [cell_set_ne _ _ _ _ _ (by omega)]; exact h.cap, fun i hi => by rw [cell_set_ne _ _ _ _ _ (by omega)]; exact h.dat i hi, fun i hi => by rw [cell_set_ne _ _ _ _ _ (by omega)]; exact h.saf i hi,
    fun i hi => range_set_ne (h.slf i hi) _ _ (by have := h.ok.sf i hi; simp only [List.length_map]; omega), fun i hi => range_set_ne (h.slh i hi) _ _ (by have := h.ok.sh i hi; simp only [List.length_map]; omega),
    by rw [cell_set_ne _ _ _ _ _ (by omega)]; exact h.calls, by rw [cell_set_ne _ _ _ _ _ (by omega)]; exact h.part, World.cell?_setCell_same _ _ _ h.dead, h.row_set _ _, h.own, h.rowD, h.dis, fun k hk => by simpa [World.setCell] using h.lt k hk, ⟨h.ok.safe, h.ok.room, h.ok.cap, h.ok.sf, h.ok.sh, h.ok.calls⟩⟩

theorem DiskIs.setCalls (h : DiskIs w p D v A) (n : Int) (hn : -1 ≤ n ∧ n ≤ 9223372036854775807) : DiskIs (w.setCell ⟨p, 134, none⟩ (.int .i64 n)) p D v { A with calls := n } := by
  refine ⟨blk_set h.blk _ _, by rw [cell_set_ne _ _ _ _ _ (by omega)]; exact h.self, by rw [cell_set_ne _ _ _ _ _ (by omega)]; exact h.cap, fun i hi => by rw [cell_set_ne _ _ _ _ _ (by omega)]; exact h.dat i hi, fun i hi => by rw [cell_set_ne _ _ _ _ _ (by omega)]; exact h.saf i hi,
    fun i hi => range_set_ne (h.slf i hi) _ _ (by have := h.ok.sf i hi; simp only [List.length_map]; omega), fun i hi => range_set_ne (h.slh i hi) _ _ (by have := h.ok.sh i hi; simp only [List.length_map]; omega),
    World.cell?_setCell_same _ _ _ h.calls, by rw [cell_set_ne _ _ _ _ _ (by omega)]; exact h.part, by rw [cell_set_ne _ _ _ _ _ (by omega)]; exact h.dead, h.row_set _ _, h.own, h.rowD, h.dis, fun k hk => by simpa [World.setCell] using h.lt k hk, ⟨h.ok.safe, h.ok.room, h.ok.cap, h.ok.sf, h.ok.sh, hn⟩⟩

theorem DiskIs.setPart (h : DiskIs w p D v A) (n : Int) : DiskIs (w.setCell ⟨p, 135, none⟩ (.int .i64 n)) p D v { A with part := n } := by
  refine ⟨blk_set h.blk _ _, by rw [cell_set_ne _ _ _ _ _ (by omega)]; exact h.self, by rw [cell_set_ne _ _ _ _ _ (by omega)]; exact h.cap, fun i hi => by rw [cell_set_ne _ _ _ _ _ (by omega)]; exact h.dat i hi, fun i hi => by rw [cell_set_ne _ _ _ _ _ (by omega)]; exact h.saf i hi,
    fun i hi => range_set_ne (h.slf i hi) _ _ (by have := h.ok.sf i hi; simp only [List.length_map]; omega), fun i hi => range_set_ne (h.slh i hi) _ _ (by have := h.ok.sh i hi; simp only [List.length_map]; omega),
    by rw [cell_set_ne _ _ _ _ _ (by omega)]; exact h.calls, World.cell?_setCell_same _ _ _ h.part, by rw [cell_set_ne _ _ _ _ _ (by omega)]; exact h.dead, h.row_set _ _, h.own, h.rowD, h.dis, fun k hk => by simpa [World.setCell] using h.lt k hk, ⟨h.ok.safe, h.ok.room, h.ok.cap, h.ok.sf, h.ok.sh, h.ok.calls⟩⟩

theorem DiskIs.setSafe (h : DiskIs w p D v A) (i : Nat) (hi : i < 2) (n : Nat) (hn : n ≤ (A.x i).length) : DiskIs (w.setCell ⟨p, 3 + 2 * i, none⟩ (.int .i64 n)) p D v { A with safe := upd A.safe i n } := by
  refine ⟨blk_set h.blk _ _, by rw [cell_set_ne _ _ _ _ _ (by omega)]; exact h.self, by rw [cell_set_ne _ _ _ _ _ (by omega)]; exact h.cap, fun j hj => by rw [cell_set_ne _ _ _ _ _ (by omega)]; exact h.dat j hj, fun j hj => ?_,
    fun j hj => range_set_ne (h.slf j hj) _ _ (by have := h.ok.sf j hj; simp only [List.length_map]; omega), fun j hj => range_set_ne (h.slh j hj) _ _ (by have := h.ok.sh j hj; simp only [List.length_map]; omega),
    by rw [cell_set_ne _ _ _ _ _ (by omega)]; exact h.calls, by rw [cell_set_ne _ _ _ _ _ (by omega)]; exact h.part, by rw [cell_set_ne _ _ _ _ _ (by omega)]; exact h.dead, h.row_set _ _, h.own, h.rowD, h.dis, fun k hk => by simpa [World.setCell] using h.lt k hk, ⟨fun j hj => ?_, h.ok.room, h.ok.cap, h.ok.sf, h.ok.sh, h.ok.calls⟩⟩
  · by_cases e : j = i
    · subst e; rw [World.cell?_setCell_same _ _ _ (h.saf j hj)]; simp [upd]
    · rw [cell_set_ne _ _ _ _ _ (by omega)]; simpa [upd, e] using h.saf j hj
  · by_cases e : j = i
    · subst e; simpa [upd] using hn
    · simpa [upd, e] using h.ok.safe j hj

theorem set_comm (w : World) (p a b : Nat) (x y : Value) (hne : a ≠ b) : (w.setCell ⟨p, a, none⟩ x).setCell ⟨p, b, none⟩ y = (w.setCell ⟨p, b, none⟩ y).setCell ⟨p, a, none⟩ x := by
  simp only [World.setCell]
  congr 1
  apply Array.ext_getElem?
  intro k
  simp only [Array.getElem?_modify]
  by_cases hk : p = k
  · subst hk
    simp only [if_true]
    cases w.heap[p]? with
    | none => rfl
    | some o =>
      cases o <;> simp
      rw [Array.setIfInBounds_comm _ _ hne]
  · simp [hk]

/-- A segment's slice is another one, over a row that is there: behind an append (in some world w1) or a cut (w1 = w). -/
theorem DiskIs.setDat (h : DiskIs w p D v A) {w1 : World} (i : Nat) (hi : i < 2) (hg : w.grownBy w1 (v i).ownBlock) (v' : Value) (xs : List UInt8) (hrow : w1.ownsRow 0 5 1 v' xs.length (xs.map bv))
    (hnew : v'.ownBlock = none ∨ v'.ownBlock = (v i).ownBlock ∨ ∃ k, v'.ownBlock = some k ∧ w.heap.size ≤ k) (hsafe : A.safe i ≤ xs.length) (hroom : (xs.length : Int) + (A.x (1 - i)).length ≤ A.cap) :
    DiskIs (w1.setCell ⟨p, 2 + 2 * i, none⟩ v') p (fun k => D k ∨ v'.ownBlock = some k) (upd v i v') { A with x := upd A.x i xs } := by
  have hnp : ∀ k, (v i).ownBlock = some k → k ≠ p := fun k hk => (h.rowD i k hi hk).2
  have hpl := h.lt p h.own
  have hbp : w1.heap[p]? = w.heap[p]? := hg.block p hpl (fun e => hnp p e.symm rfl)
  have hc : ∀ o, w1.cell? ⟨p, o, none⟩ = w.cell? ⟨p, o, none⟩ := fun o => World.cell?_of_block (a := ⟨p, o, none⟩) hbp
  have hr : ∀ o cs, w.rangeAt p o cs → w1.rangeAt p o cs := fun o cs hr j u hu => by rw [hc]; exact hr j u hu
  have hblk : ∃ cs, w1.heap[p]? = some (.cells cs 79 (0, 0)) := by rw [hbp]; exact h.blk
  have hvp : ∀ k, v'.ownBlock = some k → k ≠ p := fun k hk => by
    rcases hnew with hh | hh | ⟨k', hh, hle⟩
    · rw [hh] at hk; cases hk
    · rw [hh] at hk; exact hnp k hk
    · rw [hh] at hk; cases hk; omega
  have hv1 : ∀ k, v'.ownBlock = some k → ∀ j, j < 2 → j ≠ i → (v j).ownBlock ≠ some k := fun k hk j hj hji hjk => by
    rcases hnew with hh | hh | ⟨k', hh, hle⟩
    · rw [hh] at hk; cases hk
    · rw [hh] at hk
      rcases (show (i = 0 ∧ j = 1) ∨ (i = 1 ∧ j = 0) by omega) with ⟨rfl, rfl⟩ | ⟨rfl, rfl⟩
      · exact h.dis k hk hjk
      · exact h.dis k hjk hk
    · rw [hh] at hk; cases hk
      have := h.lt _ (h.rowD j _ hj hjk).1; omega
  refine ⟨blk_set hblk _ _, by rw [cell_set_ne _ _ _ _ _ (by omega), hc]; exact h.self, by rw [cell_set_ne _ _ _ _ _ (by omega), hc]; exact h.cap, fun j hj => ?_, fun j hj => by rw [cell_set_ne _ _ _ _ _ (by omega), hc]; exact h.saf j hj,
    fun j hj => range_set_ne (hr _ _ (h.slf j hj)) _ _ (by have := h.ok.sf j hj; simp only [List.length_map]; omega), fun j hj => range_set_ne (hr _ _ (h.slh j hj)) _ _ (by have := h.ok.sh j hj; simp only [List.length_map]; omega),
    by rw [cell_set_ne _ _ _ _ _ (by omega), hc]; exact h.calls, by rw [cell_set_ne _ _ _ _ _ (by omega), hc]; exact h.part, by rw [cell_set_ne _ _ _ _ _ (by omega), hc]; exact h.dead, fun j hj => ?_, .inl h.own, fun j k hj hk => ?_, fun k h0 h1 => ?_, fun k hk => ?_,
    ⟨fun j hj => ?_, ?_, h.ok.cap, h.ok.sf, h.ok.sh, h.ok.calls⟩⟩
  · by_cases e : j = i
    · subst e; rw [World.cell?_setCell_same _ _ _ ((hc _).trans (h.dat j hj))]; simp [upd]
    · rw [cell_set_ne _ _ _ _ _ (by omega), hc]; simpa [upd, e] using h.dat j hj
  · by_cases e : j = i
    · subst e
      simp only [upd_same]
      refine ⟨hrow.1, ?_⟩
      rcases hrow.2 with hn | ⟨g, cap, cur, hv, hb0, hg', rest⟩
      · exact .inl hn
      · refine .inr ⟨g, cap, cur, hv, hb0, ?_, rest⟩
        rw [Below.heap_setCell _ _ _ _ (hvp g (by rw [hv]; rfl))]; exact hg'
    · simp only [upd_other _ _ e]
      have hrow := h.row j hj
      refine ⟨hrow.1, ?_⟩
      rcases hrow.2 with hn | ⟨g, cap, cur, hv, hb0, hg', rest⟩
      · exact .inl hn
      · refine .inr ⟨g, cap, cur, hv, hb0, ?_, rest⟩
        have hgj : (v j).ownBlock = some g := by rw [hv]; rfl
        have hD := h.rowD j g hj hgj
        rw [Below.heap_setCell _ _ _ _ hD.2, hg.block g (h.lt g hD.1) (fun e' => ?_)]
        · exact hg'
        · rcases (show (i = 0 ∧ j = 1) ∨ (i = 1 ∧ j = 0) by omega) with ⟨rfl, rfl⟩ | ⟨rfl, rfl⟩
          · exact h.dis g e'.symm hgj
          · exact h.dis g hgj e'.symm
  · by_cases e : j = i
    · subst e; rw [upd_same] at hk; exact ⟨.inr hk, hvp k hk⟩
    · rw [upd_other _ _ e] at hk; exact ⟨.inl (h.rowD j k hj hk).1, (h.rowD j k hj hk).2⟩
  · rcases (show i = 0 ∨ i = 1 by omega) with rfl | rfl
    · rw [upd_same] at h0; rw [upd_other _ _ (by omega)] at h1; exact hv1 k h0 1 (by omega) (by omega) h1
    · rw [upd_same] at h1; rw [upd_other _ _ (by omega)] at h0; exact hv1 k h1 0 (by omega) (by omega) h0
  · have hsz := hg.size
    have : k < w1.heap.size := by
      rcases hk with hk | hk
      · exact Nat.lt_of_lt_of_le (h.lt k hk) hsz
      · exact (hrow.lt k hk).2
    simpa [World.setCell] using this
  · by_cases e : j = i
    · subst e; simpa [upd] using hsafe
    · simpa [upd, e] using h.ok.safe j hj
  · rcases (show i = 0 ∨ i = 1 by omega) with rfl | rfl
    · simpa [upd] using hroom
    · have : (xs.length : Int) + (A.x 0).length ≤ A.cap := hroom
      simp [upd]; omega

/-- Cut to its first n bytes. -/
theorem DiskIs.cutTo (h : DiskIs w p D v A) (i : Nat) (hi : i < 2) (n : Nat) (hn : n ≤ (A.x i).length) {a : Option Addr} {c : Nat} (hv : v i = .slice a (A.x i).length c) (s : Nat) (hs : s = min (A.safe i) n) :
    DiskIs ((w.setCell ⟨p, 2 + 2 * i, none⟩ (.slice a n c)).setCell ⟨p, 3 + 2 * i, none⟩ (.int .i64 s)) p D (upd v i (.slice a n c)) { A with x := upd A.x i ((A.x i).take n), safe := upd A.safe i (min (A.safe i) n) } := by
  subst hs
  rw [set_comm _ _ _ _ _ _ (by omega)]
  have h1 := h.setSafe i hi (min (A.safe i) n) (by omega)
  have hb : (Value.slice a n c).ownBlock = (v i).ownBlock := by rw [hv]; cases a <;> rfl
  have hrow0 := h1.row i hi
  have hlen : ((A.x i).take n).length = n := by rw [List.length_take]; omega
  have hrow : (w.setCell ⟨p, 3 + 2 * i, none⟩ (.int .i64 (min (A.safe i) n : Nat))).ownsRow 0 5 1 (.slice a n c) ((A.x i).take n).length (((A.x i).take n).map bv) := by
    refine ⟨by simp, ?_⟩
    rw [hlen]
    rcases hrow0.2 with ⟨hv', hn'⟩ | ⟨g, cap, cur, hv', hb0, hg, hle, hm, hsz, htk⟩
    · rw [hv] at hv'
      simp only [Value.slice.injEq] at hv'
      obtain ⟨rfl, h2, rfl⟩ := hv'
      have : n = 0 := by omega
      subst this
      exact .inl ⟨rfl, rfl⟩
    · rw [hv] at hv'
      simp only [Value.slice.injEq] at hv'
      obtain ⟨rfl, h2, rfl⟩ := hv'
      refine .inr ⟨g, c, cur, rfl, hb0, hg, Nat.le_trans hn hle, hm, hsz, ?_⟩
      simp only [Nat.mul_one] at htk ⊢
      rw [List.map_take, ← htk, List.take_take]
      congr 1
      show n = min n (A.x i).length
      omega
  have h2 := h1.setDat (w1 := w.setCell ⟨p, 3 + 2 * i, none⟩ (.int .i64 (min (A.safe i) n : Nat))) i hi (World.grownBy.refl _ _) (.slice a n c) ((A.x i).take n) hrow (.inr (.inl hb)) (by simp only [upd_same]; rw [hlen]; omega) (by
    have hr := h.ok.room
    rw [hlen]
    rcases (show i = 0 ∨ i = 1 by omega) with rfl | rfl
    · show (n : Int) + (A.x 1).length ≤ A.cap; omega
    · show (n : Int) + (A.x 0).length ≤ A.cap; omega)
  have hD : (fun k => D k ∨ (Value.slice a n c).ownBlock = some k) = D := by
    funext k
    refine propext ⟨fun hk => ?_, .inl⟩
    rcases hk with hk | hk
    · exact hk
    · rw [hb] at hk; exact (h.rowD i k hi hk).1
  rw [hD] at h2
  exact h2

/-- A disk's range of cells is written whole (a slot's bytes). -/
theorem cells_ne {w : World} {p o : Nat} (vs : List Value) (b : Nat) (hne : b < o ∨ o + vs.length ≤ b) : (w.setCells p o vs).cell? ⟨p, b, none⟩ = w.cell? ⟨p, b, none⟩ :=
  World.cell?_setCells_out p vs o w ⟨p, b, none⟩ (fun _ _ => hne)

theorem blk_setCells {t : TypeId} {p : Nat} : ∀ (vs : List Value) (o : Nat) (w : World), (∃ cs, w.heap[p]? = some (.cells cs t (0, 0))) → ∃ cs, (w.setCells p o vs).heap[p]? = some (.cells cs t (0, 0))
  | [], _, _, h => h
  | _ :: r, o, w, h => by rw [World.setCells]; exact blk_setCells r (o + 1) _ (blk_set h _ _)

theorem heap_setCells_ne {p k : Nat} (hk : k ≠ p) : ∀ (vs : List Value) (o : Nat) (w : World), (w.setCells p o vs).heap[k]? = w.heap[k]?
  | [], _, _ => rfl
  | _ :: r, o, w => by rw [World.setCells, heap_setCells_ne hk r (o + 1) _]; exact Below.heap_setCell _ _ _ _ hk

theorem size_setCells {p : Nat} : ∀ (vs : List Value) (o : Nat) (w : World), (w.setCells p o vs).heap.size = w.heap.size
  | [], _, _ => rfl
  | _ :: r, o, w => by rw [World.setCells, size_setCells r (o + 1) _]; simp [World.setCell]

theorem same_setCells {p : Nat} : ∀ (vs : List Value) (o : Nat) (w : World), (w.setCells p o vs).os = w.os ∧ (w.setCells p o vs).tape = w.tape ∧ (w.setCells p o vs).output = w.output
  | [], _, _ => ⟨rfl, rfl, rfl⟩
  | _ :: r, o, w => by rw [World.setCells]; obtain ⟨a, b, c⟩ := same_setCells (p := p) r (o + 1) (w.setCell ⟨p, o, none⟩ _); exact ⟨a, b, c⟩

theorem Step.setCells {D E : Nat → Prop} {a b : World} (h : Step D E a b) {p : Nat} (hp : E p) (o : Nat) (vs : List Value) : Step D E a (b.setCells p o vs) := by
  obtain ⟨s1, s2, s3⟩ := same_setCells (p := p) vs o b
  exact h.trans ⟨s1, s2, s3, by rw [size_setCells]; exact Nat.le_refl _, fun k _ hn => heap_setCells_ne (p := p) (k := k) (fun e => hn (by rw [e]; exact hp)) vs o b, fun _ h => .inl h⟩

theorem DiskIs.row_setCells (h : DiskIs w p D v A) (o : Nat) (vs : List Value) (i : Nat) (hi : i < 2) : (w.setCells p o vs).ownsRow 0 5 1 (v i) (A.x i).length ((A.x i).map bv) := by
  have hrow := h.row i hi
  refine ⟨hrow.1, ?_⟩
  rcases hrow.2 with hn | ⟨g, cap, cur, hv, hb0, hg, rest⟩
  · exact .inl hn
  · refine .inr ⟨g, cap, cur, hv, hb0, ?_, rest⟩
    rw [heap_setCells_ne (h.rowD i g hi (by rw [hv]; rfl)).2]; exact hg

theorem DiskIs.there (h : DiskIs w p D v A) {o n : Nat} (hs : ∀ j, j < n → (w.cell? ⟨p, o + j, none⟩).isSome = true) : w.there p o n := fun j hj => ⟨hs j hj, h.frz _⟩

/-- The first bytes of what a slot shows are others. -/
theorem DiskIs.setShown (h : DiskIs w p D v A) (i : Nat) (hi : i < 2) (bs : List UInt8) (hb : bs.length ≤ 32) :
    DiskIs (w.setCells p (38 + 64 * i) (bs.map bv)) p D v { A with sh := upd A.sh i (bs ++ (A.sh i).drop bs.length) } := by
  have hl : (bs.map bv).length = bs.length := by simp
  have h32 := h.ok.sh i hi
  have hth : w.there p (38 + 64 * i) (bs.map bv).length := h.there fun j hj => (h.slh i hi).isSome j (by simp only [List.length_map] at hj ⊢; omega)
  refine ⟨blk_setCells _ _ _ h.blk, by rw [cells_ne _ _ (by omega)]; exact h.self, by rw [cells_ne _ _ (by omega)]; exact h.cap, fun j hj => by rw [cells_ne _ _ (by omega)]; exact h.dat j hj, fun j hj => by rw [cells_ne _ _ (by omega)]; exact h.saf j hj,
    fun j hj => World.rangeAt_setCells_apart (h.slf j hj) _ _ _ (by have := h.ok.sf j hj; simp only [List.length_map]; omega), fun j hj => ?_,
    by rw [cells_ne _ _ (by omega)]; exact h.calls, by rw [cells_ne _ _ (by omega)]; exact h.part, by rw [cells_ne _ _ (by omega)]; exact h.dead, h.row_setCells _ _, h.own, h.rowD, h.dis, fun k hk => by rw [size_setCells]; exact h.lt k hk, ⟨h.ok.safe, h.ok.room, h.ok.cap, h.ok.sf, fun j hj => ?_, h.ok.calls⟩⟩
  · by_cases e : j = i
    · subst e
      intro k u hu
      simp only [upd_same, List.map_append] at hu
      by_cases hk : k < bs.length
      · rw [List.getElem?_append_left (by simpa using hk)] at hu
        exact World.rangeAt_setCells_same w p _ _ hth k u hu
      · rw [List.getElem?_append_right (by simp only [List.length_map]; omega)] at hu
        rw [cells_ne _ _ (by omega)]
        refine h.slh j hj k u ?_
        rw [← hu, List.map_drop, List.getElem?_drop]
        congr 1
        simp only [List.length_map]; omega
    · simp only [upd_other _ _ e]
      exact World.rangeAt_setCells_apart (h.slh j hj) _ _ _ (by have := h.ok.sh j hj; simp only [List.length_map]; omega)
  · by_cases e : j = i
    · subst e; simp only [upd_same, List.length_append, List.length_drop]; omega
    · simpa [upd, e] using h.ok.sh j hj

theorem DiskIs.setSafeSlot (h : DiskIs w p D v A) (i : Nat) (hi : i < 2) (bs : List UInt8) (hb : bs.length ≤ 32) :
    DiskIs (w.setCells p (6 + 64 * i) (bs.map bv)) p D v { A with sf := upd A.sf i (bs ++ (A.sf i).drop bs.length) } := by
  have hl : (bs.map bv).length = bs.length := by simp
  have h32 := h.ok.sf i hi
  have hth : w.there p (6 + 64 * i) (bs.map bv).length := h.there fun j hj => (h.slf i hi).isSome j (by simp only [List.length_map] at hj ⊢; omega)
  refine ⟨blk_setCells _ _ _ h.blk, by rw [cells_ne _ _ (by omega)]; exact h.self, by rw [cells_ne _ _ (by omega)]; exact h.cap, fun j hj => by rw [cells_ne _ _ (by omega)]; exact h.dat j hj, fun j hj => by rw [cells_ne _ _ (by omega)]; exact h.saf j hj,
    fun j hj => ?_, fun j hj => World.rangeAt_setCells_apart (h.slh j hj) _ _ _ (by have := h.ok.sh j hj; simp only [List.length_map]; omega),
    by rw [cells_ne _ _ (by omega)]; exact h.calls, by rw [cells_ne _ _ (by omega)]; exact h.part, by rw [cells_ne _ _ (by omega)]; exact h.dead, h.row_setCells _ _, h.own, h.rowD, h.dis, fun k hk => by rw [size_setCells]; exact h.lt k hk, ⟨h.ok.safe, h.ok.room, h.ok.cap, fun j hj => ?_, h.ok.sh, h.ok.calls⟩⟩
  · by_cases e : j = i
    · subst e
      intro k u hu
      simp only [upd_same, List.map_append] at hu
      by_cases hk : k < bs.length
      · rw [List.getElem?_append_left (by simpa using hk)] at hu
        exact World.rangeAt_setCells_same w p _ _ hth k u hu
      · rw [List.getElem?_append_right (by simp only [List.length_map]; omega)] at hu
        rw [cells_ne _ _ (by omega)]
        refine h.slf j hj k u ?_
        rw [← hu, List.map_drop, List.getElem?_drop]
        congr 1
        simp only [List.length_map]; omega
    · simp only [upd_other _ _ e]
      exact World.rangeAt_setCells_apart (h.slf j hj) _ _ _ (by have := h.ok.sf j hj; simp only [List.length_map]; omega)
  · by_cases e : j = i
    · subst e; simp only [upd_same, List.length_append, List.length_drop]; omega
    · simpa [upd, e] using h.ok.sf j hj

/-- The disk at p is as A says, and nothing else turned. -/
def Now (D : Nat → Prop) (p : Nat) (A : AD) (w w' : World) : Prop := ∃ D' v', DiskIs w' p D' v' A ∧ Step D D' w w'

end
end Go.Proofs.Ytoabpjdpdcpdlaa
