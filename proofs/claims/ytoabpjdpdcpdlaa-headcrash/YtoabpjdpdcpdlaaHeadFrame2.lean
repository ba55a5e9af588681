/- How rows of numbers and of heads that came in are opened. No statement of the seat is proved here. -/
import Derived.Test.YtoabpjdpdcpdlaaHeadFrame
import Derived.Test.YtoabpjdpdcpdlaaHeadRows
namespace Go.Proofs.Ytoabpjdpdcpdlaa
open Go.ChangeShapes Go.WideShapes Go.ChangeAt Go.RowKit

section
variable {H : Type} {enc : TypeId × Value → H} {w : World} {base : Nat} {spare : Nat → Bool} {held : Bool}

/-- A row of numbers. -/
theorem open_u64s {r0 : Reach} {b0 : Nat} {v : Value} {d : DataW H} {ps : List MemPlace} (hv : Value.okWide Try.prog w r0 b0 64 v) (h : DataW.Trod enc Try.prog w base spare held 64 v d ps) :
    ∃ a n c, v = .slice a n c ∧ ∃ xs : Nat → Nat, U64s w a n xs := by
  obtain ⟨a, n, c, rfl⟩ := okWide_slice Try.underlying64 hv
  obtain ⟨fuel, hf⟩ := h
  rcases open_ints Try.underlying64 Try.underlying22 (by kernel_rfl) hf with ⟨hcs, _⟩ | ⟨x, l, c', zs, hcs, _, hl, hm, hz, _, hcell, hwz⟩
  · simp [Value.cells] at hcs
    obtain ⟨rfl, rfl, rfl⟩ := hcs
    exact ⟨none, 0, 0, rfl, fun _ => 0, fun h => (h rfl).elim⟩
  · simp [Value.cells] at hcs
    obtain ⟨rfl, rfl, rfl⟩ := hcs
    have hzl : n ≤ zs.length := by rw [hz]; split <;> omega
    refine ⟨_, n, c, rfl, fun j => (zs.getD j 0).toNat, fun hn => ?_⟩
    obtain ⟨b, o, spot⟩ := x
    have h0 := hcell 0 (by omega)
    have hspot : spot = none := by simpa [Addr.add] using World.cell?_spot h0
    subst hspot
    refine ⟨b, o, rfl, fun j hj => ?_⟩
    have hw := hwz (zs.getD j 0) (by rw [List.getD_eq_getElem?_getD, List.getElem?_eq_getElem (by omega)]; simp)
    have hb : 0 ≤ zs.getD j 0 ∧ zs.getD j 0 ≤ 18446744073709551615 := by simpa [Lit.wf, IntKind.min, IntKind.max, IntKind.signed, IntKind.bits] using hw
    have hc := hcell j (by omega)
    rw [Addr.add_mid] at hc
    refine ⟨?_, by show (zs.getD j 0).toNat < _; omega⟩
    rw [hc, show (((zs.getD j 0).toNat : Nat) : Int) = zs.getD j 0 by omega]

/-- A row of heads. -/
theorem open_heads {r0 : Reach} {b0 : Nat} {v : Value} {d : DataW H} {ps : List MemPlace} (hv : Value.okWide Try.prog w r0 b0 62 v) (h : DataW.Trod enc Try.prog w base spare held 62 v d ps) :
    ∃ a n c, v = .slice a n c ∧ ∃ hs : Nat → HeadD, HeadsAt w a n hs := by
  obtain ⟨a, n, c, rfl⟩ := okWide_slice Try.underlying62 hv
  obtain ⟨fuel, hf⟩ := h
  rcases DataW.trod_slice Try.underlying62 hf with ⟨hcs, _⟩ | ⟨x, l, c', elems, rest, m, _, hcs, _, hb, hl, hm, hlen, hel, _⟩
  · simp [Value.cells] at hcs
    obtain ⟨rfl, rfl, rfl⟩ := hcs
    exact ⟨none, 0, 0, rfl, fun _ => ⟨0, 0, 0⟩, fun h => (h rfl).elim⟩
  · simp [Value.cells] at hcs
    obtain ⟨rfl, rfl, rfl⟩ := hcs
    have c3 : Try.prog.cellsOf 24 = 3 := by kernel_rfl
    have each : ∀ i, ∃ h : HeadD, i < n → w.cell? ((x.add (i * 3)).add 0) = some (.int .u64 ((h.s : Nat) : Int)) ∧ w.cell? ((x.add (i * 3)).add 1) = some (.int .u64 ((h.e : Nat) : Int)) ∧ w.cell? ((x.add (i * 3)).add 2) = some (.int .u8 ((h.l : Nat) : Int)) ∧ h.fits := fun i => by
      by_cases hi : i < n
      · have h1 := hel i hi
        rw [c3, List.getElem?_eq_getElem (show i < elems.length by omega), Option.bind_eq_some_iff] at h1
        obtain ⟨cs, h2, h3⟩ := h1
        unfold World.cells? at h2
        split at h2
        · obtain ⟨s, e, l, rfl, hfit⟩ := trod_head h3
          have g0 := mapM_some_get h2 0 0 (by simp)
          have g1 := mapM_some_get h2 1 1 (by simp)
          have g2 := mapM_some_get h2 2 2 (by simp)
          exact ⟨⟨s, e, l⟩, fun _ => ⟨g0, g1, g2, hfit⟩⟩
        · cases h2
      · exact ⟨⟨0, 0, 0⟩, fun h => (hi h).elim⟩
    obtain ⟨hs, spec⟩ : ∃ hs : Nat → HeadD, ∀ i, i < n → w.cell? ((x.add (i * 3)).add 0) = some (.int .u64 (((hs i).s : Nat) : Int)) ∧ w.cell? ((x.add (i * 3)).add 1) = some (.int .u64 (((hs i).e : Nat) : Int)) ∧ w.cell? ((x.add (i * 3)).add 2) = some (.int .u8 (((hs i).l : Nat) : Int)) ∧ (hs i).fits :=
      ⟨fun i => Classical.choose (each i), fun i => Classical.choose_spec (each i)⟩
    refine ⟨_, n, c, rfl, hs, fun hn => ?_⟩
    obtain ⟨b, o, spot⟩ := x
    have h0 := (spec 0 (by omega)).1
    have hspot : spot = none := by simpa [Addr.add] using World.cell?_spot h0
    subst hspot
    refine ⟨b, o, rfl, fun j hj => ?_⟩
    obtain ⟨g0, g1, g2, g3⟩ := spec j hj
    rw [Addr.add_mid, Addr.add_mid] at g0 g1 g2
    rw [Nat.mul_comm 3 j]
    exact ⟨g0, g1, g2, g3⟩
end
end Go.Proofs.Ytoabpjdpdcpdlaa
