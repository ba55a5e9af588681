/- RowsFrame, RowsFrame2: our own definitions and contracts; no statement of the seat is proved here. -/
import Derived.Test.YtflfiobicapopaaBase14
import Derived.Test.YtflfiobicapopaaBase06
import Derived.SizedLaws
namespace Go.Proofs.Ytflfiobicapopaa
open Go.ChangeShapes Go.WideShapes Go.ChangeAt Go.RowKit

theorem bulk_one {H : Type} (d : DataW H) : 1 ≤ Rows.uptoBulk d := by
  cases d with
  | lit l => cases l <;> simp [Rows.uptoBulk]
  | nil => simp [Rows.uptoBulk]
  | ptr d => simp [Rows.uptoBulk]
  | slice elems spare => simp [Rows.uptoBulk]
  | agg parts => simp [Rows.uptoBulk]
  | iface t d => simp [Rows.uptoBulk]
  | map entries => simp [Rows.uptoBulk]
  | held h => simp [Rows.uptoBulk]
theorem bulk_length {H : Type} (l : List (DataW H)) : l.length ≤ Rows.uptoBulkAll l := by
  induction l with
  | nil => simp [Rows.uptoBulkAll]
  | cons x r ih => have := bulk_one x; simp only [Rows.uptoBulkAll, List.length_cons]; omega
theorem bulk_append {H : Type} (l r : List (DataW H)) : Rows.uptoBulkAll (l ++ r) = Rows.uptoBulkAll l + Rows.uptoBulkAll r := by
  induction l with
  | nil => simp [Rows.uptoBulkAll]
  | cons x l ih => simp only [List.cons_append, Rows.uptoBulkAll, ih]; omega

section
variable {H : Type} {enc : TypeId × Value → H} {w : World} {base : Nat} {spare : Nat → Bool} {held : Bool}

/-- A slice of bytes within what came in, and its weight. -/
theorem trod_bytes1 {fuel : Nat} {v : Value} {x : DataW H × List MemPlace} (h : DataW.trod enc Try.prog w base spare held fuel 49 [v] = some x) : ∃ bs : List UInt8, Bytes w v bs ∧ bs.length + 1 ≤ Rows.uptoBulk x.1 := by
  rcases open_ints Try.underlying49 Try.underlying5 (by kernel_rfl) h with ⟨hcs, hx⟩ | ⟨x', l, c', zs, hcs, _, hl, hm, hz, hx, hcell, hwz⟩
  · simp at hcs
    subst hcs
    exact ⟨[], .inl ⟨rfl, rfl⟩, by rw [hx]; simp [Rows.uptoBulk]⟩
  · simp at hcs
    subst hcs
    have hzl : l ≤ zs.length := by rw [hz]; split <;> omega
    refine ⟨(zs.take l).map (fun x => UInt8.ofNat x.toNat), .inr ⟨x', c', by simp; omega, by simp; omega, hm, fun j u hu => ?_⟩, ?_⟩
    · have hj : j < l := by have := (List.getElem?_eq_some_iff.1 hu).1; simp at this; omega
      have hw := hwz (zs.getD j 0) (by rw [List.getD_eq_getElem?_getD, List.getElem?_eq_getElem (by omega)]; simp)
      have hb : 0 ≤ zs.getD j 0 ∧ zs.getD j 0 ≤ 255 := by simpa [Lit.wf, IntKind.min, IntKind.max, IntKind.signed, IntKind.bits] using hw
      rw [hcell j (by omega)]
      rw [List.map_map, List.getElem?_map, List.getElem?_take, if_pos hj, List.getElem?_eq_getElem (by omega)] at hu
      simp only [Option.map_some, Function.comp_apply, Option.some.injEq] at hu
      rw [← hu, List.getD_eq_getElem?_getD, List.getElem?_eq_getElem (by omega)]
      rw [List.getD_eq_getElem?_getD, List.getElem?_eq_getElem (by omega)] at hb
      simp only [Option.getD_some] at hb ⊢
      unfold bv
      rw [UInt8.toNat_ofNat']
      congr 2
      omega
    · rw [hx]
      have h1 := bulk_length (lits (H := H) .u8 (zs.take l))
      have h2 : (lits (H := H) .u8 (zs.take l)).length = (zs.take l).length := by simp [lits]
      simp only [Rows.uptoBulk]
      rw [List.length_map]
      omega

/-- The weight of a row of things. -/
def szAll {α : Type} (sz : α → Nat) : List α → Nat
  | [] => 0
  | x :: xs => sz x + 1 + szAll sz xs
theorem sz_append {α : Type} (sz : α → Nat) (xs ys : List α) : szAll sz (xs ++ ys) = szAll sz xs + szAll sz ys := by
  induction xs with
  | nil => simp [szAll]
  | cons x xs ih => simp only [List.cons_append, szAll, ih]; omega
theorem sz_length {α : Type} (sz : α → Nat) (xs : List α) : xs.length ≤ szAll sz xs := by
  induction xs with
  | nil => simp [szAll]
  | cons x xs ih => simp only [szAll, List.length_cons]; omega

theorem things {α : Type} {sz : α → Nat} {P : Nat → α → Prop} {xs : List (DataW H × List MemPlace)} (h : ∀ (i : Nat) x, xs[i]? = some x → ∃ y : α, P i y ∧ sz y + 1 ≤ Rows.uptoBulk x.1) :
    ∃ ys : List α, ys.length = xs.length ∧ (∀ (i : Nat) y, ys[i]? = some y → P i y) ∧ szAll sz ys ≤ Rows.uptoBulkAll (xs.map (·.1)) := by
  suffices hs : ∀ n, n ≤ xs.length → ∃ ys : List α, ys.length = n ∧ (∀ (i : Nat) y, ys[i]? = some y → P i y) ∧ szAll sz ys ≤ Rows.uptoBulkAll ((xs.take n).map (·.1)) by
    have := hs xs.length (Nat.le_refl _)
    rwa [List.take_length] at this
  intro n
  induction n with
  | zero => exact fun _ => ⟨[], rfl, fun i y hy => (by cases hy), by simp [szAll]⟩
  | succ n ih =>
    intro hn
    obtain ⟨ys, h1, h2, h3⟩ := ih (by omega)
    obtain ⟨y, hP, hw⟩ := h n xs[n] (List.getElem?_eq_getElem (by omega))
    refine ⟨ys ++ [y], by simp [h1], fun i z hz => ?_, ?_⟩
    · by_cases hi : i < ys.length
      · rw [List.getElem?_append_left hi] at hz
        exact h2 i z hz
      · have hi2 : i = ys.length := by have := (List.getElem?_eq_some_iff.1 hz).1; rw [List.length_append, List.length_singleton] at this; omega
        rw [hi2, List.getElem?_append_right (Nat.le_refl _), Nat.sub_self] at hz
        cases hz
        rw [hi2, h1]
        exact hP
    · rw [sz_append, List.take_succ_eq_append_getElem (by omega), List.map_append, bulk_append]
      simp only [szAll, List.map_cons, List.map_nil, Rows.uptoBulkAll]
      omega

/-- A slice of one-cell things within what came in. -/
theorem trod_list {α : Type} {E : World → Value → α → Prop} {sz : α → Nat} {t e : TypeId} (ht : Try.prog.underlying t = some (.slice e)) (hc : Try.prog.cellsOf e = 1)
    (he : ∀ fuel v (x : DataW H × List MemPlace), DataW.trod enc Try.prog w base spare held fuel e [v] = some x → ∃ y, E w v y ∧ sz y + 1 ≤ Rows.uptoBulk x.1)
    {fuel : Nat} {v : Value} {x : DataW H × List MemPlace} (h : DataW.trod enc Try.prog w base spare held fuel t [v] = some x) : ∃ ys : List α, ListAt E w v ys ∧ szAll sz ys + 1 ≤ Rows.uptoBulk x.1 ∧ ys.length ≤ maxLen := by
  rcases DataW.trod_slice ht h with ⟨hcs, hx⟩ | ⟨ad, l, c', elems, rest, m, _, hcs, hx, hb, hl, hm, hlen, hel, _⟩
  · simp at hcs
    subst hcs
    exact ⟨[], .inl ⟨⟨_, _, rfl⟩, rfl⟩, by rw [hx]; simp [szAll, Rows.uptoBulk], Nat.zero_le _⟩
  · simp at hcs
    subst hcs
    have each : ∀ (i : Nat) y, elems[i]? = some y → ∃ z : α, (∃ u, w.cell? (ad.add i) = some u ∧ E w u z) ∧ sz z + 1 ≤ Rows.uptoBulk y.1 := fun i y hy => by
      have hi : i < l := by have := (List.getElem?_eq_some_iff.1 hy).1; omega
      have h1 := hel i hi
      rw [hc, Nat.mul_one, hy, Option.bind_eq_some_iff] at h1
      obtain ⟨cs, h2, h3⟩ := h1
      unfold World.cells? at h2
      split at h2
      · have hl1 : cs.length = 1 := by simpa using mapM_some_length h2
        match cs, hl1 with
        | [u], _ =>
          have g0 := mapM_some_get h2 0 0 (by simp)
          rw [Addr.add_zero'] at g0
          obtain ⟨z, e1, e2⟩ := he _ _ _ h3
          exact ⟨z, ⟨u, g0, e1⟩, e2⟩
      · cases h2
    obtain ⟨ys, h1, h2, h3⟩ := things (sz := sz) (P := fun i z => ∃ u, w.cell? (ad.add i) = some u ∧ E w u z) each
    refine ⟨ys, ?_, ?_, by omega⟩
    · by_cases hn : l = 0
      · have e0 : ys = [] := List.eq_nil_of_length_eq_zero (by omega)
        rw [hn]
        exact .inl ⟨⟨_, _, rfl⟩, e0⟩
      · obtain ⟨b, o, spot⟩ := ad
        obtain ⟨y0, hy0⟩ := some_get (xs := ys) (j := 0) (by omega)
        obtain ⟨u, hu, _⟩ := h2 0 y0 hy0
        have hspot : spot = none := by simpa [Addr.add] using World.cell?_spot hu
        subst hspot
        refine .inr ⟨b, o, c', by rw [h1, hlen], by omega, fun i y hy => ?_⟩
        obtain ⟨u, hu, hE⟩ := h2 i y hy
        rw [Addr.add_mid] at hu
        exact ⟨u, hu, hE⟩
    · rw [hx]
      simp only [Rows.uptoBulk]
      omega

theorem trod_rows {fuel : Nat} {v : Value} {x : DataW H × List MemPlace} (h : DataW.trod enc Try.prog w base spare held fuel 23 [v] = some x) : ∃ rows : List (List UInt8), RowsAt w v rows ∧ szAll List.length rows + 1 ≤ Rows.uptoBulk x.1 ∧ rows.length ≤ maxLen :=
  trod_list (E := Bytes) Try.underlying23 (by kernel_rfl) (fun _ _ _ h => trod_bytes1 h) h
set_option maxRecDepth 100000 in
/-- Rows of bytes that came in, and their weight. -/
theorem open_rows {r0 : Reach} {b0 : Nat} {v : Value} {d : DataW H} {ps : List MemPlace} (hv : Value.okWide Try.prog w r0 b0 23 v) (h : DataW.Trod enc Try.prog w base spare held 23 v d ps) :
    ∃ a n c, v = .slice a n c ∧ ∃ rows : List (List UInt8), rows.length = n ∧ RowsAt w (.slice a n c) rows ∧ szAll List.length rows + 1 ≤ Rows.uptoBulk d ∧ n ≤ maxLen := by
  obtain ⟨a, n, c, rfl⟩ := okWide_slice Try.underlying23 hv
  obtain ⟨fuel, hf⟩ := h
  obtain ⟨rows, h1, h2, h3⟩ := trod_rows (v := .slice a n c) hf
  obtain ⟨_, _, e, _⟩ := h1.form
  simp only [Value.slice.injEq] at e
  exact ⟨a, n, c, rfl, rows, e.2.1.symm, h1, h2, by omega⟩
set_option maxRecDepth 100000 in
/-- Batches that came in, and their weight. -/
theorem open_batches {r0 : Reach} {b0 : Nat} {v : Value} {d : DataW H} {ps : List MemPlace} (hv : Value.okWide Try.prog w r0 b0 33 v) (h : DataW.Trod enc Try.prog w base spare held 33 v d ps) :
    ∃ a n c, v = .slice a n c ∧ ∃ l : List (List (List UInt8)), l.length = n ∧ BatchesAt w (.slice a n c) l ∧ szAll (szAll List.length) l + 1 ≤ Rows.uptoBulk d ∧ n ≤ maxLen := by
  obtain ⟨a, n, c, rfl⟩ := okWide_slice Try.underlying33 hv
  obtain ⟨fuel, hf⟩ := h
  obtain ⟨l, h1, h2, h3⟩ := trod_list (E := RowsAt) (sz := szAll List.length) (v := .slice a n c) Try.underlying33 (by kernel_rfl) (fun _ _ _ h => by obtain ⟨rows, g1, g2, _⟩ := trod_rows h; exact ⟨rows, g1, g2⟩) hf
  obtain ⟨_, _, e, _⟩ := ListAt.form h1
  simp only [Value.slice.injEq] at e
  exact ⟨a, n, c, rfl, l, e.2.1.symm, h1, h2, by omega⟩

theorem sz_total (rows : List (List UInt8)) : szAll List.length rows = total rows + rows.length := by
  induction rows with
  | nil => rfl
  | cons r rows ih => simp only [szAll, total, List.length_cons, ih]; omega
theorem sz_weight (l : List (List (List UInt8))) : szAll (szAll List.length) l = weight l + l.length := by
  induction l with
  | nil => rfl
  | cons r l ih => simp only [szAll, weight, List.length_cons, ih, sz_total]; omega
end
end Go.Proofs.Ytflfiobicapopaa

namespace Go.Proofs.Ytflfiobicapopaa
open Go.ChangeShapes Go.WideShapes Go.ChangeAt Go.RowKit

section
variable {H : Type} {enc : TypeId × Value → H} {w : World} {base : Nat} {spare : Nat → Bool} {held : Bool}

theorem trod_list_w {α : Type} (C : DataW H → Prop) {E : World → Value → α → Prop} {sz : α → Nat} {t e : TypeId} (ht : Try.prog.underlying t = some (.slice e)) (hc : Try.prog.cellsOf e = 1)
    (he : ∀ fuel v (x : DataW H × List MemPlace), DataW.trod enc Try.prog w base spare held fuel e [v] = some x → C x.1 → ∃ y, E w v y ∧ sz y + 1 ≤ Rows.uptoBulk x.1)
    {fuel : Nat} {v : Value} {x : DataW H × List MemPlace} (h : DataW.trod enc Try.prog w base spare held fuel t [v] = some x) (hC : ∀ es sp, x.1 = .slice es sp → ∀ d ∈ es, C d) : ∃ ys : List α, ListAt E w v ys ∧ szAll sz ys + 1 ≤ Rows.uptoBulk x.1 ∧ ys.length ≤ maxLen := by
  rcases DataW.trod_slice ht h with ⟨hcs, hx⟩ | ⟨ad, l, c', elems, rest, m, _, hcs, hx, hb, hl, hm, hlen, hel, _⟩
  · simp at hcs
    subst hcs
    exact ⟨[], .inl ⟨⟨_, _, rfl⟩, rfl⟩, by rw [hx]; simp [szAll, Rows.uptoBulk], Nat.zero_le _⟩
  · simp at hcs
    subst hcs
    have each : ∀ (i : Nat) y, elems[i]? = some y → ∃ z : α, (∃ u, w.cell? (ad.add i) = some u ∧ E w u z) ∧ sz z + 1 ≤ Rows.uptoBulk y.1 := fun i y hy => by
      have hi : i < l := by have := (List.getElem?_eq_some_iff.1 hy).1; omega
      have h1 := hel i hi
      rw [hc, Nat.mul_one, hy, Option.bind_eq_some_iff] at h1
      obtain ⟨cs, h2, h3⟩ := h1
      unfold World.cells? at h2
      split at h2
      · have hl1 : cs.length = 1 := by simpa using mapM_some_length h2
        match cs, hl1 with
        | [u], _ =>
          have g0 := mapM_some_get h2 0 0 (by simp)
          rw [Addr.add_zero'] at g0
          obtain ⟨z, e1, e2⟩ := he _ _ _ h3 (hC (elems.map (·.1)) (rest.map (·.1)) (by rw [hx]) _ (List.mem_map.2 ⟨y, List.mem_of_getElem? hy, rfl⟩))
          exact ⟨z, ⟨u, g0, e1⟩, e2⟩
      · cases h2
    obtain ⟨ys, h1, h2, h3⟩ := things (sz := sz) (P := fun i z => ∃ u, w.cell? (ad.add i) = some u ∧ E w u z) each
    refine ⟨ys, ?_, ?_, by omega⟩
    · by_cases hn : l = 0
      · have e0 : ys = [] := List.eq_nil_of_length_eq_zero (by omega)
        rw [hn]
        exact .inl ⟨⟨_, _, rfl⟩, e0⟩
      · obtain ⟨b, o, spot⟩ := ad
        obtain ⟨y0, hy0⟩ := some_get (xs := ys) (j := 0) (by omega)
        obtain ⟨u, hu, _⟩ := h2 0 y0 hy0
        have hspot : spot = none := by simpa [Addr.add] using World.cell?_spot hu
        subst hspot
        refine .inr ⟨b, o, c', by rw [h1, hlen], by omega, fun i y hy => ?_⟩
        obtain ⟨u, hu, hE⟩ := h2 i y hy
        rw [Addr.add_mid] at hu
        exact ⟨u, hu, hE⟩
    · rw [hx]
      simp only [Rows.uptoBulk]
      omega


/-- What each of it weighs is bounded. -/
def Bounded (t : TypeId) (d : DataW H) : Prop := ∀ n ∈ d.weights Try.prog t, n ≤ reachBytes
theorem bounded_all {e : TypeId} {es : List (DataW H)} (h : ∀ n ∈ DataW.weightsAll Try.prog e es, n ≤ reachBytes) : ∀ d ∈ es, Bounded e d := by
  induction es with
  | nil => intro d hd; cases hd
  | cons x es ih =>
    simp only [DataW.weightsAll, List.mem_append] at h
    intro d hd
    rcases List.mem_cons.1 hd with rfl | hd
    · exact fun n hn => h n (.inl hn)
    · exact ih (fun n hn => h n (.inr hn)) d hd
theorem Bounded.slice {t e : TypeId} (hu : Try.prog.underlying t = some (.slice e)) {es sp : List (DataW H)} (h : Bounded t (.slice es sp)) : (es.length + sp.length) * Try.prog.bytesOf e ≤ reachBytes ∧ ∀ d ∈ es, Bounded e d := by
  refine ⟨h _ (by simp [DataW.weights, hu]), bounded_all fun n hn => h n ?_⟩
  simp only [DataW.weights, hu, List.mem_cons, List.mem_append]
  exact .inr (.inl hn)
set_option maxRecDepth 100000 in
theorem trod_bytes_sized {fuel : Nat} {v : Value} {x : DataW H × List MemPlace} (h : DataW.trod enc Try.prog w base spare held fuel 49 [v] = some x) (hb : Bounded 49 x.1) : ∃ bs : List UInt8, (Bytes w v bs ∧ bs.length ≤ reachBytes) ∧ bs.length + 1 ≤ Rows.uptoBulk x.1 := by
  obtain ⟨bs, h1, h2⟩ := trod_bytes1 h
  refine ⟨bs, ⟨h1, ?_⟩, h2⟩
  obtain ⟨a, c, hv, _⟩ := h1.form
  rcases DataW.trod_slice Try.underlying49 h with ⟨hcs, hx⟩ | ⟨ad, l, c', elems, rest, m, _, hcs, hx, _, _, _, hlen, _⟩
  · simp at hcs
    rw [hcs] at hv
    simp only [Value.slice.injEq] at hv
    omega
  · simp at hcs
    rw [hcs] at hv
    simp only [Value.slice.injEq] at hv
    rw [hx] at hb
    have h3 := (Bounded.slice Try.underlying49 hb).1
    have h4 : Try.prog.bytesOf 5 = 1 := by kernel_rfl
    rw [h4, List.length_map, List.length_map] at h3
    omega
theorem reach_most : reachBytes ≤ 140737488355328 := by decide
set_option maxRecDepth 100000 in
/-- Rows of bytes that came in: each is bounded. -/
theorem open_rows_sized {r0 : Reach} {b0 : Nat} {v : Value} {d : DataW H} {ps : List MemPlace} (hv : Value.okWide Try.prog w r0 b0 23 v) (h : DataW.Trod enc Try.prog w base spare held 23 v d ps) (hb : Bounded 23 d) :
    ∃ a n c, v = .slice a n c ∧ ∃ rows : List (List UInt8), rows.length = n ∧ RowsAt w (.slice a n c) rows ∧ (∀ r ∈ rows, r.length ≤ 140737488355328) ∧ n ≤ 140737488355328 := by
  obtain ⟨a, n, c, rfl⟩ := okWide_slice Try.underlying23 hv
  obtain ⟨fuel, hf0⟩ := h
  have hf : DataW.trod enc Try.prog w base spare held fuel 23 [.slice a n c] = some (d, ps) := hf0
  obtain ⟨rows, h1, _, _⟩ := trod_list_w (Bounded 49) (E := fun w v y => Bytes w v y ∧ y.length ≤ reachBytes) (sz := List.length) (v := .slice a n c) Try.underlying23 (by kernel_rfl) (fun _ _ _ h hb => trod_bytes_sized h hb) hf (fun es sp he => by
    have hb' : Bounded 23 (.slice es sp) := by rw [← he]; exact hb
    exact (Bounded.slice Try.underlying23 hb').2)
  obtain ⟨_, _, e, _⟩ := h1.form
  simp only [Value.slice.injEq] at e
  have hRA : RowsAt w (.slice a n c) rows := by
    rcases h1 with h | ⟨b, o, c', hv, hl, hr⟩
    · exact .inl h
    · exact .inr ⟨b, o, c', hv, hl, fun i x hx => by obtain ⟨u, e1, e2⟩ := hr i x hx; exact ⟨u, e1, e2.1⟩⟩
  refine ⟨a, n, c, rfl, rows, e.2.1.symm, hRA, fun r hr => ?_, ?_⟩
  · obtain ⟨i, hi⟩ := List.mem_iff_getElem?.1 hr
    obtain ⟨_, _, u, _, _, h2⟩ := h1.at hi
    exact Nat.le_trans h2.2 reach_most
  · rcases DataW.trod_slice Try.underlying23 hf with ⟨hcs, hx⟩ | ⟨ad, l, c', elems, rest, m, _, hcs, hx, _, _, _, hlen, _⟩
    · simp at hcs
      omega
    · simp at hcs
      have hx' : d = .slice (elems.map (·.1)) (rest.map (·.1)) := by have := congrArg Prod.fst hx; exact this
      rw [hx'] at hb
      have h3 := (Bounded.slice Try.underlying23 hb).1
      have h4 : Try.prog.bytesOf 49 = 24 := by kernel_rfl
      rw [h4, List.length_map, List.length_map] at h3
      have := reach_most
      omega
end
end Go.Proofs.Ytflfiobicapopaa
