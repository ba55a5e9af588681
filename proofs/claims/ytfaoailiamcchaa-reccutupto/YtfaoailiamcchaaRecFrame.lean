/- How records that came in are opened: one by value, a row of them, and what the bound gives. No statement of the seat is proved here. -/
import Derived.Test.YtfaoailiamcchaaGenFrame
import Derived.Test.YtfaoailiamcchaaRecAny
namespace Go.Proofs.Ytfaoailiamcchaa
open Go.ChangeShapes Go.WideShapes Go.ChangeAt Go.RowKit

section
variable {H : Type} {enc : TypeId × Value → H} {w : World} {base : Nat} {spare : Nat → Bool} {held : Bool}

theorem bulk_one {H : Type} (d : DataW H) : 1 ≤ Rows.uptoBulk d := by
  cases d with
  | lit l => cases l <;> simp [Rows.uptoBulk]
  | nil => simp [Rows.uptoBulk]
  | ptr d => simp [Rows.uptoBulk]
  | slice elems spare => simp [Rows.uptoBulk]
  | agg parts => simp [Rows.uptoBulk]
  | iface t d => simp [Rows.uptoBulk]
  | map entries => simp [Rows.uptoBulk]
  | held h => simp [Rows.uptoBulk]
theorem bulk_length {H : Type} (l : List (DataW H)) : l.length ≤ Rows.uptoBulkAll l := by
  induction l with
  | nil => simp [Rows.uptoBulkAll]
  | cons x r ih => have := bulk_one x; simp only [Rows.uptoBulkAll, List.length_cons]; omega

/-- A slice of bytes within what came in, and its weight. -/
theorem trod_bytes {fuel : Nat} {v : Value} {x : DataW H × List MemPlace} (h : DataW.trod enc Try.prog w base spare held fuel 22 [v] = some x) : ∃ a n c bs, v = .slice a n c ∧ Bytes w (.slice a n c) bs ∧ bs.length ≤ Rows.uptoBulk x.1 := by
  rcases open_ints Try.underlying22 Try.underlying5 (by kernel_rfl) h with ⟨hcs, _⟩ | ⟨x', l, c', zs, hcs, _, hl, hm, hz, hx, hcell, hwz⟩
  · simp at hcs
    exact ⟨none, 0, 0, [], hcs, .inl ⟨rfl, rfl⟩, Nat.zero_le _⟩
  · simp at hcs
    subst hcs
    have hzl : l ≤ zs.length := by rw [hz]; split <;> omega
    refine ⟨_, l, c', (zs.take l).map (fun x => UInt8.ofNat x.toNat), rfl, .inr ⟨x', c', by simp; omega, by simp; omega, hm, fun j u hu => ?_⟩, ?_⟩
    · have hj : j < l := by have := (List.getElem?_eq_some_iff.1 hu).1; simp at this; omega
      have hw := hwz (zs.getD j 0) (by rw [List.getD_eq_getElem?_getD, List.getElem?_eq_getElem (by omega)]; simp)
      have hb : 0 ≤ zs.getD j 0 ∧ zs.getD j 0 ≤ 255 := by simpa [Lit.wf, IntKind.min, IntKind.max, IntKind.signed, IntKind.bits] using hw
      rw [hcell j (by omega)]
      rw [List.map_map, List.getElem?_map, List.getElem?_take, if_pos hj, List.getElem?_eq_getElem (by omega)] at hu
      simp only [Option.map_some, Function.comp_apply, Option.some.injEq] at hu
      rw [← hu, List.getD_eq_getElem?_getD, List.getElem?_eq_getElem (by omega)]
      rw [List.getD_eq_getElem?_getD, List.getElem?_eq_getElem (by omega)] at hb
      simp only [Option.getD_some] at hb ⊢
      unfold bv
      rw [UInt8.toNat_ofNat']
      congr 2
      omega
    · rw [hx]
      have h1 := bulk_length (lits (H := H) .u8 (zs.take l))
      have h2 : (lits (H := H) .u8 (zs.take l)).length = (zs.take l).length := by simp [lits]
      simp only [Rows.uptoBulk]
      rw [List.length_map]
      omega

theorem some_at {α : Type} {l : List α} {n i : Nat} (h : l.length = n) (hi : i < n) : ∃ y, l[i]? = some y := ⟨l[i], List.getElem?_eq_getElem (by omega)⟩
theorem two_of {l : List Value} (h : l.length = 2) : ∃ a b, l = [a, b] := by
  match l, h with
  | [a, b], _ => exact ⟨a, b, rfl⟩

/-- A record within what came in: what its cells are, and its weight. -/
theorem trod_rec {fuel : Nat} {cs : List Value} {x : DataW H × List MemPlace} (h : DataW.trod enc Try.prog w base spare held fuel 24 cs = some x) :
    ∃ (r : RecD) (a : Option Addr) (n c : Nat), cs = [.int .u8 (r.k.toNat : Nat), .slice a n c] ∧ Bytes w (.slice a n c) r.d ∧ r.d.length + 1 ≤ Rows.uptoBulk x.1 := by
  obtain ⟨xs, m, _, hx, hl, hlen, hf⟩ := DataW.trod_struct Try.underlying24 h
  have hl2 : cs.length = 2 := hl.trans (by kernel_rfl)
  obtain ⟨v0, v1, rfl⟩ := two_of hl2
  have c5 : Try.prog.cellsOf 5 = 1 := by kernel_rfl
  have c28 : Try.prog.cellsOf 22 = 1 := by kernel_rfl
  have hlen' : xs.length = 2 := hlen
  obtain ⟨y0, e0⟩ := some_at hlen' (i := 0) (by omega)
  obtain ⟨y1, e1⟩ := some_at hlen' (i := 1) (by omega)
  have f0 : DataW.trod enc Try.prog w base spare held m 5 (([v0, v1].drop 0).take (Try.prog.cellsOf 5)) = some y0 := (hf 0 _ rfl).trans e0
  rw [c5] at f0
  replace f0 : DataW.trod enc Try.prog w base spare held m 5 [v0] = some y0 := f0
  have f1 : DataW.trod enc Try.prog w base spare held m 22 (([v0, v1].drop 1).take (Try.prog.cellsOf 22)) = some y1 := (hf 1 _ rfl).trans e1
  rw [c28] at f1
  replace f1 : DataW.trod enc Try.prog w base spare held m 22 [v1] = some y1 := f1
  obtain ⟨k, g0, _, w0⟩ := DataW.trod_int Try.underlying5 f0
  obtain ⟨a, n, c, bs, g1, hb, hw⟩ := trod_bytes f1
  simp at g0
  subst g0 g1
  have hk : 0 ≤ k ∧ k ≤ 255 := by simpa [Lit.wf, IntKind.min, IntKind.max, IntKind.signed, IntKind.bits] using w0
  refine ⟨⟨UInt8.ofNat k.toNat, bs⟩, a, n, c, ?_, hb, ?_⟩
  · show [Value.int .u8 k, _] = [Value.int .u8 (((UInt8.ofNat k.toNat).toNat : Nat) : Int), _]
    rw [u8_of _ (by omega), show ((k.toNat : Nat) : Int) = k by omega]
  · rw [hx]
    have hm : y1 ∈ xs := List.mem_of_getElem? e1
    have h3 : Rows.uptoBulk y1.1 ≤ Rows.uptoBulkAll (xs.map (·.1)) := by
      have : y1.1 ∈ xs.map (·.1) := List.mem_map.2 ⟨y1, hm, rfl⟩
      generalize xs.map (·.1) = l at this
      induction l with
      | nil => cases this
      | cons z l ih =>
        simp only [Rows.uptoBulkAll]
        rcases List.mem_cons.1 this with e | e
        · rw [e]; omega
        · have := ih e; omega
    simp only [Rows.uptoBulk]
    show bs.length + 1 ≤ _
    omega

/-- A record by value. -/
theorem open_rec {r0 : Reach} {b0 : Nat} {v : Value} {d : DataW H} {ps : List MemPlace} (hv : Value.okWide Try.prog w r0 b0 24 v) (h : DataW.Trod enc Try.prog w base spare held 24 v d ps) :
    ∃ (r : RecD) (a : Option Addr) (n c : Nat), v = .agg #[.int .u8 (r.k.toNat : Nat), .slice a n c] ∧ Bytes w (.slice a n c) r.d := by
  have hu : Try.prog.underlying 24 = _ := Try.underlying24
  simp only [Value.okWide, hu] at hv
  obtain ⟨fuel, hf⟩ := h
  obtain ⟨r, a, n, c, h1, h2, _⟩ := trod_rec hf
  obtain ⟨cs, rfl, hrest⟩ := hv
  refine ⟨r, a, n, c, ?_, h2⟩
  have h3 : cs.toList = [.int .u8 (r.k.toNat : Nat), .slice a n c] := h1
  congr 1
  apply Array.ext'
  rw [h3]

/-- Many things and their weights. -/
theorem bulk_rows {P : RecD → Nat → Prop} : ∀ {xs : List (DataW H × List MemPlace)}, (∀ i x, xs[i]? = some x → ∃ r : RecD, P r i ∧ r.d.length + 1 ≤ Rows.uptoBulk x.1) →
    ∃ rs : List RecD, rs.length = xs.length ∧ (∀ i, i < rs.length → P (rs.getD i ⟨0, []⟩) i) ∧ (puts rs).length + rs.length ≤ 10 * Rows.uptoBulkAll (xs.map (·.1)) ∧ (∀ i, i < rs.length → (rs.getD i ⟨0, []⟩).d.length ≤ Rows.uptoBulkAll (xs.map (·.1))) := by
  intro xs h
  suffices hs : ∀ n, n ≤ xs.length → ∃ rs : List RecD, rs.length = n ∧ (∀ i, i < rs.length → P (rs.getD i ⟨0, []⟩) i) ∧ (puts rs).length + rs.length ≤ 10 * Rows.uptoBulkAll ((xs.take n).map (·.1)) ∧ (∀ i, i < rs.length → (rs.getD i ⟨0, []⟩).d.length ≤ Rows.uptoBulkAll ((xs.take n).map (·.1))) by
    have := hs xs.length (Nat.le_refl _)
    rwa [List.take_length] at this
  intro n
  induction n with
  | zero => exact fun _ => ⟨[], rfl, fun i hi => by simp at hi, by simp [puts, Rows.uptoBulkAll], fun i hi => by simp at hi⟩
  | succ n ih =>
    intro hn
    obtain ⟨rs, h1, h2, h3, h4⟩ := ih (by omega)
    obtain ⟨r, hP, hw⟩ := h n xs[n] (List.getElem?_eq_getElem (by omega))
    have happ : ∀ (l r : List (DataW H)), Rows.uptoBulkAll (l ++ r) = Rows.uptoBulkAll l + Rows.uptoBulkAll r := by
      intro l r
      induction l with
      | nil => simp [Rows.uptoBulkAll]
      | cons x l ih => simp only [List.cons_append, Rows.uptoBulkAll, ih]; omega
    have e : Rows.uptoBulkAll ((xs.take (n + 1)).map (·.1)) = Rows.uptoBulkAll ((xs.take n).map (·.1)) + Rows.uptoBulk xs[n].1 := by
      rw [List.take_succ_eq_append_getElem (by omega), List.map_append, happ]
      simp [Rows.uptoBulkAll]
    have eg : ∀ i, i < rs.length → (rs ++ [r]).getD i ⟨0, []⟩ = rs.getD i ⟨0, []⟩ := fun i hi => by rw [List.getD_eq_getElem?_getD, List.getD_eq_getElem?_getD, List.getElem?_append_left hi]
    have el : (rs ++ [r]).getD rs.length ⟨0, []⟩ = r := by rw [List.getD_eq_getElem?_getD, List.getElem?_append_right (Nat.le_refl _), Nat.sub_self]; rfl
    refine ⟨rs ++ [r], by simp [h1], fun i hi => ?_, ?_, fun i hi => ?_⟩
    · rw [List.length_append, List.length_singleton] at hi
      by_cases hi2 : i < rs.length
      · rw [eg i hi2]; exact h2 i hi2
      · have ei : i = rs.length := by omega
        rw [ei, el, h1]; exact hP
    · rw [e, puts_snoc, List.length_append, List.length_append, List.length_singleton, put_len]
      omega
    · rw [List.length_append, List.length_singleton] at hi
      rw [e]
      by_cases hi2 : i < rs.length
      · rw [eg i hi2]; have := h4 i hi2; omega
      · have ei : i = rs.length := by omega
        rw [ei, el]; omega

/-- A row of records that came in, and its weight. -/
theorem open_recs {r0 : Reach} {b0 : Nat} {v : Value} {d : DataW H} {ps : List MemPlace} (hv : Value.okWide Try.prog w r0 b0 34 v) (h : DataW.Trod enc Try.prog w base spare held 34 v d ps) :
    ∃ a n c, v = .slice a n c ∧ ∃ rs : List RecD, rs.length = n ∧ RecsAt w (.slice a n c) rs ∧ (puts rs).length + rs.length ≤ 10 * Rows.uptoBulk d ∧ rs.length ≤ Rows.uptoBulk d ∧ (∀ i, i < rs.length → (rs.getD i ⟨0, []⟩).d.length ≤ Rows.uptoBulk d) := by
  obtain ⟨a, n, c, rfl⟩ := okWide_slice Try.underlying34 hv
  obtain ⟨fuel, hf⟩ := h
  rcases DataW.trod_slice Try.underlying34 hf with ⟨hcs, hx⟩ | ⟨x, l, c', elems, rest, m, _, hcs, hx, hb, hl, hm, hlen, hel, _⟩
  · simp [Value.cells] at hcs
    obtain ⟨rfl, rfl, rfl⟩ := hcs
    exact ⟨none, 0, 0, rfl, [], rfl, .inl ⟨⟨_, _, rfl⟩, rfl⟩, by simp [puts], Nat.zero_le _, fun i hi => by simp at hi⟩
  · simp [Value.cells] at hcs
    obtain ⟨rfl, rfl, rfl⟩ := hcs
    have hd : Rows.uptoBulkAll (elems.map (·.1)) ≤ Rows.uptoBulk d := by
      have e : d = .slice (elems.map (·.1)) (rest.map (·.1)) := congrArg Prod.fst hx
      rw [e]
      simp only [Rows.uptoBulk]
      omega
    have c2 : Try.prog.cellsOf 24 = 2 := by kernel_rfl
    have each : ∀ i y, elems[i]? = some y → ∃ r : RecD, (∃ a' n' c'', w.cell? ((x.add (i * 2)).add 0) = some (.int .u8 (r.k.toNat : Nat)) ∧ w.cell? ((x.add (i * 2)).add 1) = some (.slice a' n' c'') ∧ Bytes w (.slice a' n' c'') r.d) ∧ r.d.length + 1 ≤ Rows.uptoBulk y.1 := fun i y hy => by
      have hi : i < n := by have := (List.getElem?_eq_some_iff.1 hy).1; omega
      have h1 := hel i hi
      rw [c2, hy, Option.bind_eq_some_iff] at h1
      obtain ⟨cs, h2, h3⟩ := h1
      unfold World.cells? at h2
      split at h2
      · obtain ⟨r, a', n', c'', rfl, r1, r2⟩ := trod_rec h3
        have g0 := mapM_some_get h2 0 0 (by simp)
        have g1 := mapM_some_get h2 1 1 (by simp)
        exact ⟨r, ⟨a', n', c'', g0, g1, r1⟩, r2⟩
      · cases h2
    obtain ⟨rs, h1, h2, h3, h4⟩ := bulk_rows (P := fun r i => ∃ a' n' c'', w.cell? ((x.add (i * 2)).add 0) = some (.int .u8 (r.k.toNat : Nat)) ∧ w.cell? ((x.add (i * 2)).add 1) = some (.slice a' n' c'') ∧ Bytes w (.slice a' n' c'') r.d) each
    have hq := bulk_length (elems.map (·.1))
    rw [List.length_map] at hq
    refine ⟨_, n, c, rfl, rs, by omega, ?_, by omega, by omega, fun i hi => by have := h4 i hi; omega⟩
    by_cases hn : n = 0
    · have e0 : rs = [] := List.eq_nil_of_length_eq_zero (by omega)
      subst hn
      exact .inl ⟨⟨_, _, rfl⟩, e0⟩
    · obtain ⟨b, o, spot⟩ := x
      obtain ⟨_, _, _, hc0, _⟩ := h2 0 (by omega)
      have hspot : spot = none := by simpa [Addr.add] using World.cell?_spot hc0
      subst hspot
      refine .inr ⟨b, o, c, by rw [h1, hlen], by omega, fun i hi => ?_⟩
      obtain ⟨a', n', c'', g0, g1, g2⟩ := h2 i hi
      rw [Addr.add_mid, Addr.add_mid] at g0 g1
      refine ⟨a', n', c'', ?_, ?_, g2⟩
      · rw [Nat.mul_comm 2 i]; exact g0
      · rw [Nat.mul_comm 2 i]; exact g1
end
end Go.Proofs.Ytfaoailiamcchaa
