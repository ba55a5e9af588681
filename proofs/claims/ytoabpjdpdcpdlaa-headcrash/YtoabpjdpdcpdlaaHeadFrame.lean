/- How a head that came in by value is opened. No statement of the seat is proved here. -/
import Derived.Test.YtoabpjdpdcpdlaaGenFrame
import Derived.Test.YtoabpjdpdcpdlaaHeadMath
namespace Go.Proofs.Ytoabpjdpdcpdlaa
open Go.ChangeShapes Go.WideShapes Go.ChangeAt Go.RowKit

section
variable {H : Type} {enc : TypeId × Value → H} {w : World} {base : Nat} {spare : Nat → Bool} {held : Bool}

theorem at_some {α : Type} {l : List α} {n i : Nat} (h : l.length = n) (hi : i < n) : ∃ y, l[i]? = some y := ⟨l[i], List.getElem?_eq_getElem (by omega)⟩
theorem three_of {l : List Value} (h : l.length = 3) : ∃ a b c, l = [a, b, c] := by
  match l, h with
  | [a, b, c], _ => exact ⟨a, b, c, rfl⟩

/-- A head within what came in: what its cells are. -/
theorem trod_head {fuel : Nat} {cs : List Value} {x : DataW H × List MemPlace} (h : DataW.trod enc Try.prog w base spare held fuel 24 cs = some x) :
    ∃ s e l : Nat, cs = [.int .u64 ((s : Nat) : Int), .int .u64 ((e : Nat) : Int), .int .u8 ((l : Nat) : Int)] ∧ (HeadD.mk s e l).fits := by
  obtain ⟨xs, m, _, hx, hl, hlen, hf⟩ := DataW.trod_struct Try.underlying24 h
  have hl3 : cs.length = 3 := hl.trans (by kernel_rfl)
  obtain ⟨v0, v1, v2, rfl⟩ := three_of hl3
  have c5 : Try.prog.cellsOf 5 = 1 := by kernel_rfl
  have c22 : Try.prog.cellsOf 22 = 1 := by kernel_rfl
  have hlen' : xs.length = 3 := hlen
  obtain ⟨y0, e0⟩ := at_some hlen' (i := 0) (by omega)
  obtain ⟨y1, e1⟩ := at_some hlen' (i := 1) (by omega)
  obtain ⟨y2, e2⟩ := at_some hlen' (i := 2) (by omega)
  have f0 : DataW.trod enc Try.prog w base spare held m 22 (([v0, v1, v2].drop 0).take (Try.prog.cellsOf 22)) = some y0 := (hf 0 _ rfl).trans e0
  rw [c22] at f0
  replace f0 : DataW.trod enc Try.prog w base spare held m 22 [v0] = some y0 := f0
  have f1 : DataW.trod enc Try.prog w base spare held m 22 (([v0, v1, v2].drop 1).take (Try.prog.cellsOf 22)) = some y1 := (hf 1 _ rfl).trans e1
  rw [c22] at f1
  replace f1 : DataW.trod enc Try.prog w base spare held m 22 [v1] = some y1 := f1
  have f2 : DataW.trod enc Try.prog w base spare held m 5 (([v0, v1, v2].drop 2).take (Try.prog.cellsOf 5)) = some y2 := (hf 2 _ rfl).trans e2
  rw [c5] at f2
  replace f2 : DataW.trod enc Try.prog w base spare held m 5 [v2] = some y2 := f2
  obtain ⟨s, g0, _, w0⟩ := DataW.trod_int Try.underlying22 f0
  obtain ⟨e, g1, _, w1⟩ := DataW.trod_int Try.underlying22 f1
  obtain ⟨l, g2, _, w2⟩ := DataW.trod_int Try.underlying5 f2
  simp at g0 g1 g2
  subst g0 g1 g2
  have hs : 0 ≤ s ∧ s ≤ 18446744073709551615 := by simpa [Lit.wf, IntKind.min, IntKind.max, IntKind.signed, IntKind.bits] using w0
  have he : 0 ≤ e ∧ e ≤ 18446744073709551615 := by simpa [Lit.wf, IntKind.min, IntKind.max, IntKind.signed, IntKind.bits] using w1
  have hk : 0 ≤ l ∧ l ≤ 255 := by simpa [Lit.wf, IntKind.min, IntKind.max, IntKind.signed, IntKind.bits] using w2
  refine ⟨s.toNat, e.toNat, l.toNat, ?_, ?_, ?_, ?_⟩
  · rw [show ((s.toNat : Nat) : Int) = s by omega, show ((e.toNat : Nat) : Int) = e by omega, show ((l.toNat : Nat) : Int) = l by omega]
  · show s.toNat < _; omega
  · show e.toNat < _; omega
  · show l.toNat < _; omega

/-- A head by value. -/
theorem open_head {r0 : Reach} {b0 : Nat} {v : Value} {d : DataW H} {ps : List MemPlace} (hv : Value.okWide Try.prog w r0 b0 24 v) (h : DataW.Trod enc Try.prog w base spare held 24 v d ps) :
    ∃ s e l : Nat, v = .agg #[.int .u64 ((s : Nat) : Int), .int .u64 ((e : Nat) : Int), .int .u8 ((l : Nat) : Int)] ∧ (HeadD.mk s e l).fits := by
  have hu : Try.prog.underlying 24 = _ := Try.underlying24
  simp only [Value.okWide, hu] at hv
  obtain ⟨fuel, hf⟩ := h
  obtain ⟨s, e, l, h1, h2⟩ := trod_head hf
  obtain ⟨cs, rfl, hrest⟩ := hv
  refine ⟨s, e, l, ?_, h2⟩
  have h3 : cs.toList = [.int .u64 ((s : Nat) : Int), .int .u64 ((e : Nat) : Int), .int .u8 ((l : Nat) : Int)] := h1
  congr 1
  apply Array.ext'
  rw [h3]
end
end Go.Proofs.Ytoabpjdpdcpdlaa
