/- How more arguments of the statements of this seat are opened: a slice of slices of bytes, a slice of flags. No statement of the seat is proved here. -/
import Derived.Test.YtbpjlkjokafdnaaFrame
import Derived.Deep.Grids
import Derived.Deep.Matrix
namespace Go.Proofs.Ytbpjlkjokafdnaa
open Go.ChangeShapes Go.WideShapes Go.ChangeAt Go.RowKit

section
variable {H : Type} {enc : TypeId × Value → H} {P : Program} {w : World} {base : Nat} {held : Bool}

theorem spot_none {a : Addr} {v : Value} (h : w.cell? (a.add 0) = some v) : ∃ b o, a = ⟨b, o, none⟩ := by
  obtain ⟨b, o, spot⟩ := a
  have hspot : spot = none := by simpa [Addr.add] using World.cell?_spot h
  exact ⟨b, o, by rw [hspot]⟩

/-- A slice of slices of bytes that came in. -/
theorem open_byte_rows {t e q : TypeId} {r : Reach} {b0 : Nat} {v : Value} {d : DataW H} {ps : List MemPlace} (ht : P.underlying t = some (.slice e)) (he : P.underlying e = some (.slice q)) (hq : P.underlying q = some (.int .u8)) (ce : P.cellsOf e = 1) (cq : P.cellsOf q = 1)
    (hv : Value.okWide P w r b0 t v) (h : DataW.Trod enc P w base (fun _ => true) held t v d ps) : ∃ a n c, v = .slice a n c ∧ n ≤ c ∧ ∃ (ra : Nat → Option Addr) (rc : Nat → Nat) (lb : Nat → List UInt8),
      n = 0 ∨ ∃ b o, a = some ⟨b, o, none⟩ ∧ ∀ i, i < n → w.cell? ⟨b, o + i, none⟩ = some (.slice (ra i) (lb i).length (rc i)) ∧ Bytes w (.slice (ra i) (lb i).length (rc i)) (lb i) := by
  obtain ⟨a, n, c, rfl⟩ := okWide_slice ht hv
  obtain ⟨fuel, hf⟩ := h
  rcases Go.Deep.open_int_rows ht he hq ce cq hf with ⟨hcs, _⟩ | ⟨x, l, c', A, L, C, Z, hcs, _, hl, hm, _, hrows⟩
  · simp [Value.cells] at hcs
    obtain ⟨rfl, rfl, rfl⟩ := hcs
    exact ⟨none, 0, 0, rfl, Nat.le_refl _, fun _ => none, fun _ => 0, fun _ => [], .inl rfl⟩
  · simp [Value.cells] at hcs
    obtain ⟨rfl, rfl, rfl⟩ := hcs
    refine ⟨_, n, c, rfl, hl, A, C, fun i => ((Z i).take (L i)).map (fun x => UInt8.ofNat x.toNat), ?_⟩
    by_cases hn : n = 0
    · exact .inl hn
    right
    obtain ⟨b, o, rfl⟩ := spot_none (hrows 0 (by omega)).1
    refine ⟨b, o, rfl, fun i hi => ?_⟩
    obtain ⟨h1, h2, h3, h4, h5, h6, h7⟩ := hrows i (by omega)
    have hlen : (((Z i).take (L i)).map (fun x => UInt8.ofNat x.toNat)).length = L i := by simp; omega
    rw [hlen]
    refine ⟨by rw [Addr.add_mid] at h1; exact h1, ?_⟩
    show Bytes w (.slice (A i) (L i) (C i)) (((Z i).take (L i)).map (fun x => UInt8.ofNat x.toNat))
    cases hA : A i with
    | none =>
      have hc := h6 hA
      have hz : (Z i) = [] := List.eq_nil_of_length_eq_zero (by omega)
      rw [hz, hc, show L i = 0 by omega]
      exact .inl ⟨rfl, by simp⟩
    | some a' =>
      obtain ⟨_, h8⟩ := h7 a' hA
      refine .inr ⟨a', C i, by rw [hlen], by rw [hlen]; exact h2, h3, fun j u hu => ?_⟩
      have hj : j < L i := by have := (List.getElem?_eq_some_iff.1 hu).1; simp at this; omega
      have hw := h5 ((Z i).getD j 0) (by rw [List.getD_eq_getElem?_getD, List.getElem?_eq_getElem (by omega)]; simp)
      have hb : 0 ≤ (Z i).getD j 0 ∧ (Z i).getD j 0 ≤ 255 := by simpa [Lit.wf, IntKind.min, IntKind.max, IntKind.signed, IntKind.bits] using hw
      rw [h8 j (by omega)]
      rw [List.map_map, List.getElem?_map, List.getElem?_take, if_pos hj, List.getElem?_eq_getElem (by omega)] at hu
      simp only [Option.map_some, Function.comp_apply, Option.some.injEq] at hu
      rw [← hu, List.getD_eq_getElem?_getD, List.getElem?_eq_getElem (by omega)]
      rw [List.getD_eq_getElem?_getD, List.getElem?_eq_getElem (by omega)] at hb
      simp only [Option.getD_some] at hb ⊢
      unfold bv
      rw [UInt8.toNat_ofNat']
      congr 2
      omega

/-- A slice of flags that came in. -/
theorem open_flags {t e : TypeId} {r : Reach} {b0 : Nat} {v : Value} {d : DataW H} {ps : List MemPlace} (ht : P.underlying t = some (.slice e)) (he : P.underlying e = some .bool) (ce : P.cellsOf e = 1)
    (hv : Value.okWide P w r b0 t v) (h : DataW.Trod enc P w base (fun _ => true) held t v d ps) : ∃ a n c, v = .slice a n c ∧ ∃ sb : Nat → Bool, n = 0 ∨ ∃ b o, a = some ⟨b, o, none⟩ ∧ ∀ i, i < n → w.cell? ⟨b, o + i, none⟩ = some (.bool (sb i)) := by
  obtain ⟨a, n, c, rfl⟩ := okWide_slice ht hv
  obtain ⟨fuel, hf⟩ := h
  rcases Go.Deep.open_bools ht he ce hf with ⟨hcs, _⟩ | ⟨x, l, c', B, hcs, _, hl, hm, _, hrow⟩
  · simp [Value.cells] at hcs
    obtain ⟨rfl, rfl, rfl⟩ := hcs
    exact ⟨none, 0, 0, rfl, fun _ => false, .inl rfl⟩
  · simp [Value.cells] at hcs
    obtain ⟨rfl, rfl, rfl⟩ := hcs
    refine ⟨_, n, c, rfl, B, ?_⟩
    by_cases hn : n = 0
    · exact .inl hn
    right
    obtain ⟨b, o, rfl⟩ := spot_none (hrow 0 (by omega))
    exact ⟨b, o, rfl, fun i hi => by have := hrow i (by omega); rwa [Addr.add_mid] at this⟩
end
end Go.Proofs.Ytbpjlkjokafdnaa
