/- How slices of slices that came in are opened where each of them is bounded. No statement of the seat is proved here. -/
import Derived.Test.YtbbglgfgelnncaaRowsFrame
import Derived.SizedLaws
namespace Go.Proofs.Ytbbglgfgelnncaa
open Go.ChangeShapes Go.WideShapes Go.ChangeAt Go.RowKit

section
variable {H : Type} {enc : TypeId × Value → H} {w : World} {base : Nat} {spare : Nat → Bool} {held : Bool}

theorem trod_list_w {α : Type} (C : DataW H → Prop) {E : World → Value → α → Prop} {sz : α → Nat} {t e : TypeId} (ht : Try.prog.underlying t = some (.slice e)) (hc : Try.prog.cellsOf e = 1)
    (he : ∀ fuel v (x : DataW H × List MemPlace), DataW.trod enc Try.prog w base spare held fuel e [v] = some x → C x.1 → ∃ y, E w v y ∧ sz y + 1 ≤ Rows.uptoBulk x.1)
    {fuel : Nat} {v : Value} {x : DataW H × List MemPlace} (h : DataW.trod enc Try.prog w base spare held fuel t [v] = some x) (hC : ∀ es sp, x.1 = .slice es sp → ∀ d ∈ es, C d) : ∃ ys : List α, ListAt E w v ys ∧ szAll sz ys + 1 ≤ Rows.uptoBulk x.1 ∧ ys.length ≤ maxLen := by
  rcases DataW.trod_slice ht h with ⟨hcs, hx⟩ | ⟨ad, l, c', elems, rest, m, _, hcs, hx, hb, hl, hm, hlen, hel, _⟩
  · simp at hcs
    subst hcs
    exact ⟨[], .inl ⟨⟨_, _, rfl⟩, rfl⟩, by rw [hx]; simp [szAll, Rows.uptoBulk], Nat.zero_le _⟩
  · simp at hcs
    subst hcs
    have each : ∀ (i : Nat) y, elems[i]? = some y → ∃ z : α, (∃ u, w.cell? (ad.add i) = some u ∧ E w u z) ∧ sz z + 1 ≤ Rows.uptoBulk y.1 := fun i y hy => by
      have hi : i < l := by have := (List.getElem?_eq_some_iff.1 hy).1; omega
      have h1 := hel i hi
      rw [hc, Nat.mul_one, hy, Option.bind_eq_some_iff] at h1
      obtain ⟨cs, h2, h3⟩ := h1
      unfold World.cells? at h2
      split at h2
      · have hl1 : cs.length = 1 := by simpa using mapM_some_length h2
        match cs, hl1 with
        | [u], _ =>
          have g0 := mapM_some_get h2 0 0 (by simp)
          rw [Addr.add_zero'] at g0
          obtain ⟨z, e1, e2⟩ := he _ _ _ h3 (hC (elems.map (·.1)) (rest.map (·.1)) (by rw [hx]) _ (List.mem_map.2 ⟨y, List.mem_of_getElem? hy, rfl⟩))
          exact ⟨z, ⟨u, g0, e1⟩, e2⟩
      · cases h2
    obtain ⟨ys, h1, h2, h3⟩ := things (sz := sz) (P := fun i z => ∃ u, w.cell? (ad.add i) = some u ∧ E w u z) each
    refine ⟨ys, ?_, ?_, by omega⟩
    · by_cases hn : l = 0
      · have e0 : ys = [] := List.eq_nil_of_length_eq_zero (by omega)
        rw [hn]
        exact .inl ⟨⟨_, _, rfl⟩, e0⟩
      · obtain ⟨b, o, spot⟩ := ad
        obtain ⟨y0, hy0⟩ := some_get (xs := ys) (j := 0) (by omega)
        obtain ⟨u, hu, _⟩ := h2 0 y0 hy0
        have hspot : spot = none := by simpa [Addr.add] using World.cell?_spot hu
        subst hspot
        refine .inr ⟨b, o, c', by rw [h1, hlen], by omega, fun i y hy => ?_⟩
        obtain ⟨u, hu, hE⟩ := h2 i y hy
        rw [Addr.add_mid] at hu
        exact ⟨u, hu, hE⟩
    · rw [hx]
      simp only [Rows.uptoBulk]
      omega


/-- What each of it weighs is bounded. -/
def Bounded (t : TypeId) (d : DataW H) : Prop := ∀ n ∈ d.weights Try.prog t, n ≤ reachBytes
theorem bounded_all {e : TypeId} {es : List (DataW H)} (h : ∀ n ∈ DataW.weightsAll Try.prog e es, n ≤ reachBytes) : ∀ d ∈ es, Bounded e d := by
  induction es with
  | nil => intro d hd; cases hd
  | cons x es ih =>
    simp only [DataW.weightsAll, List.mem_append] at h
    intro d hd
    rcases List.mem_cons.1 hd with rfl | hd
    · exact fun n hn => h n (.inl hn)
    · exact ih (fun n hn => h n (.inr hn)) d hd
theorem Bounded.slice {t e : TypeId} (hu : Try.prog.underlying t = some (.slice e)) {es sp : List (DataW H)} (h : Bounded t (.slice es sp)) : (es.length + sp.length) * Try.prog.bytesOf e ≤ reachBytes ∧ ∀ d ∈ es, Bounded e d := by
  refine ⟨h _ (by simp [DataW.weights, hu]), bounded_all fun n hn => h n ?_⟩
  simp only [DataW.weights, hu, List.mem_cons, List.mem_append]
  exact .inr (.inl hn)
theorem trod_bytes_sized {fuel : Nat} {v : Value} {x : DataW H × List MemPlace} (h : DataW.trod enc Try.prog w base spare held fuel 23 [v] = some x) (hb : Bounded 23 x.1) : ∃ bs : List UInt8, (Bytes w v bs ∧ bs.length ≤ reachBytes) ∧ bs.length + 1 ≤ Rows.uptoBulk x.1 := by
  obtain ⟨bs, h1, h2⟩ := trod_bytes1 h
  refine ⟨bs, ⟨h1, ?_⟩, h2⟩
  obtain ⟨a, c, hv, _⟩ := h1.form
  rcases DataW.trod_slice Try.underlying23 h with ⟨hcs, hx⟩ | ⟨ad, l, c', elems, rest, m, _, hcs, hx, _, _, _, hlen, _⟩
  · simp at hcs
    rw [hcs] at hv
    simp only [Value.slice.injEq] at hv
    omega
  · simp at hcs
    rw [hcs] at hv
    simp only [Value.slice.injEq] at hv
    rw [hx] at hb
    have h3 := (Bounded.slice Try.underlying23 hb).1
    have h4 : Try.prog.bytesOf 5 = 1 := by kernel_rfl
    rw [h4, List.length_map, List.length_map] at h3
    omega
theorem reach_most : reachBytes ≤ 140737488355328 := by decide
/-- Rows of bytes that came in: each is bounded. -/
theorem open_rows_sized {r0 : Reach} {b0 : Nat} {v : Value} {d : DataW H} {ps : List MemPlace} (hv : Value.okWide Try.prog w r0 b0 22 v) (h : DataW.Trod enc Try.prog w base spare held 22 v d ps) (hb : Bounded 22 d) :
    ∃ a n c, v = .slice a n c ∧ ∃ rows : List (List UInt8), rows.length = n ∧ RowsAt w (.slice a n c) rows ∧ (∀ r ∈ rows, r.length ≤ 140737488355328) ∧ n ≤ 140737488355328 := by
  obtain ⟨a, n, c, rfl⟩ := okWide_slice Try.underlying22 hv
  obtain ⟨fuel, hf0⟩ := h
  have hf : DataW.trod enc Try.prog w base spare held fuel 22 [.slice a n c] = some (d, ps) := hf0
  obtain ⟨rows, h1, _, _⟩ := trod_list_w (Bounded 23) (E := fun w v y => Bytes w v y ∧ y.length ≤ reachBytes) (sz := List.length) (v := .slice a n c) Try.underlying22 (by kernel_rfl) (fun _ _ _ h hb => trod_bytes_sized h hb) hf (fun es sp he => by
    have hb' : Bounded 22 (.slice es sp) := by rw [← he]; exact hb
    exact (Bounded.slice Try.underlying22 hb').2)
  obtain ⟨_, _, e, _⟩ := h1.form
  simp only [Value.slice.injEq] at e
  have hRA : RowsAt w (.slice a n c) rows := by
    rcases h1 with h | ⟨b, o, c', hv, hl, hr⟩
    · exact .inl h
    · exact .inr ⟨b, o, c', hv, hl, fun i x hx => by obtain ⟨u, e1, e2⟩ := hr i x hx; exact ⟨u, e1, e2.1⟩⟩
  refine ⟨a, n, c, rfl, rows, e.2.1.symm, hRA, fun r hr => ?_, ?_⟩
  · obtain ⟨i, hi⟩ := List.mem_iff_getElem?.1 hr
    obtain ⟨_, _, u, _, _, h2⟩ := h1.at hi
    exact Nat.le_trans h2.2 reach_most
  · rcases DataW.trod_slice Try.underlying22 hf with ⟨hcs, hx⟩ | ⟨ad, l, c', elems, rest, m, _, hcs, hx, _, _, _, hlen, _⟩
    · simp at hcs
      omega
    · simp at hcs
      have hx' : d = .slice (elems.map (·.1)) (rest.map (·.1)) := by have := congrArg Prod.fst hx; exact this
      rw [hx'] at hb
      have h3 := (Bounded.slice Try.underlying22 hb).1
      have h4 : Try.prog.bytesOf 23 = 24 := by kernel_rfl
      rw [h4, List.length_map, List.length_map] at h3
      have := reach_most
      omega
end
end Go.Proofs.Ytbbglgfgelnncaa
