/- How a row of calls that came in is opened. No statement of the seat is proved here. -/
import Derived.Test.YtoabpjdpdcpdlaaGenFrame
import Derived.Test.YtoabpjdpdcpdlaaHeadTells
namespace Go.Proofs.Ytoabpjdpdcpdlaa
open Go.ChangeShapes Go.WideShapes Go.ChangeAt Go.RowKit

section
variable {H : Type} {enc : TypeId × Value → H} {w : World} {base : Nat} {spare : Nat → Bool} {held : Bool}

theorem nine_of {l : List Value} (h : l.length = 9) : ∃ v0 v1 v2 v3 v4 v5 v6 v7 v8, l = [v0, v1, v2, v3, v4, v5, v6, v7, v8] := by
  match l, h with
  | [v0, v1, v2, v3, v4, v5, v6, v7, v8], _ => exact ⟨v0, v1, v2, v3, v4, v5, v6, v7, v8, rfl⟩

/-- A call within what came in: what its cells are. -/
theorem trod_call {fuel : Nat} {cs : List Value} {x : DataW H × List MemPlace} (h : DataW.trod enc Try.prog w base spare held fuel 47 cs = some x) :
    ∃ k : CallD, cs = k.vals.toList ∧ k.fits := by
  obtain ⟨xs, m, _, _, hl, hlen, hf⟩ := DataW.trod_struct Try.underlying47 h
  have hl9 : cs.length = 9 := hl.trans (by kernel_rfl)
  obtain ⟨v0, v1, v2, v3, v4, v5, v6, v7, v8, rfl⟩ := nine_of hl9
  have c5 : Try.prog.cellsOf 5 = 1 := by kernel_rfl
  have c3 : Try.prog.cellsOf 3 = 1 := by kernel_rfl
  have c24 : Try.prog.cellsOf 24 = 3 := by kernel_rfl
  have c45 : Try.prog.cellsOf 45 = 4 := by kernel_rfl
  have hlen' : xs.length = 4 := hlen
  obtain ⟨y0, e0⟩ := at_some hlen' (i := 0) (by omega)
  obtain ⟨y1, e1⟩ := at_some hlen' (i := 1) (by omega)
  obtain ⟨y2, e2⟩ := at_some hlen' (i := 2) (by omega)
  obtain ⟨y3, e3⟩ := at_some hlen' (i := 3) (by omega)
  have f0 : DataW.trod enc Try.prog w base spare held m 5 (([v0, v1, v2, v3, v4, v5, v6, v7, v8].drop 0).take (Try.prog.cellsOf 5)) = some y0 := (hf 0 _ rfl).trans e0
  rw [c5] at f0
  replace f0 : DataW.trod enc Try.prog w base spare held m 5 [v0] = some y0 := f0
  have f1 : DataW.trod enc Try.prog w base spare held m 24 (([v0, v1, v2, v3, v4, v5, v6, v7, v8].drop 1).take (Try.prog.cellsOf 24)) = some y1 := (hf 1 _ rfl).trans e1
  rw [c24] at f1
  replace f1 : DataW.trod enc Try.prog w base spare held m 24 [v1, v2, v3] = some y1 := f1
  have f2 : DataW.trod enc Try.prog w base spare held m 3 (([v0, v1, v2, v3, v4, v5, v6, v7, v8].drop 4).take (Try.prog.cellsOf 3)) = some y2 := (hf 2 _ rfl).trans e2
  rw [c3] at f2
  replace f2 : DataW.trod enc Try.prog w base spare held m 3 [v4] = some y2 := f2
  have f3 : DataW.trod enc Try.prog w base spare held m 45 (([v0, v1, v2, v3, v4, v5, v6, v7, v8].drop 5).take (Try.prog.cellsOf 45)) = some y3 := (hf 3 _ rfl).trans e3
  rw [c45] at f3
  replace f3 : DataW.trod enc Try.prog w base spare held m 45 [v5, v6, v7, v8] = some y3 := f3
  obtain ⟨wh, g0, _, w0⟩ := DataW.trod_int Try.underlying5 f0
  obtain ⟨s, e, l, g1, hfit⟩ := trod_head f1
  obtain ⟨nn, g2, _, w2⟩ := DataW.trod_int Try.underlying3 f2
  obtain ⟨ks, m4, _, _, _, hk4, hks⟩ := DataW.trod_array Try.underlying45 f3
  have hk : ∀ i, i < 4 → ∃ k, [v5, v6, v7, v8][i]? = some (.int .i64 k) := fun i hi => by
    have h1 := hks i hi
    obtain ⟨y, ey⟩ := at_some hk4 (i := i) hi
    rw [c3, Nat.mul_one, ey] at h1
    obtain ⟨k, g, _⟩ := DataW.trod_int Try.underlying3 h1
    refine ⟨k, ?_⟩
    rcases (show i = 0 ∨ i = 1 ∨ i = 2 ∨ i = 3 by omega) with rfl | rfl | rfl | rfl <;> simp at g ⊢ <;> exact g
  obtain ⟨k0, g4⟩ := hk 0 (by omega)
  obtain ⟨k1, g5⟩ := hk 1 (by omega)
  obtain ⟨k2, g6⟩ := hk 2 (by omega)
  obtain ⟨k3, g7⟩ := hk 3 (by omega)
  simp at g0 g2 g4 g5 g6 g7
  simp only [List.cons.injEq, and_true] at g1
  obtain ⟨g1a, g1b, g1c⟩ := g1
  subst g0 g2 g4 g5 g6 g7 g1a g1b g1c
  have hw : 0 ≤ wh ∧ wh ≤ 255 := by simpa [Lit.wf, IntKind.min, IntKind.max, IntKind.signed, IntKind.bits] using w0
  have hn : -9223372036854775808 ≤ nn ∧ nn ≤ 9223372036854775807 := by simpa [Lit.wf, IntKind.min, IntKind.max, IntKind.signed, IntKind.bits] using w2
  refine ⟨⟨wh.toNat, s, e, l, nn, k0, k1, k2, k3⟩, ?_, by show wh.toNat < 256; omega, hfit, hn.2⟩
  have hh : ((wh.toNat : Nat) : Int) = wh := by omega
  simp only [CallD.vals, hh]

/-- A row of calls that came in. -/
theorem open_calls {r0 : Reach} {b0 : Nat} {v : Value} {d : DataW H} {ps : List MemPlace} (hv : Value.okWide Try.prog w r0 b0 26 v) (h : DataW.Trod enc Try.prog w base spare held 26 v d ps) :
    ∃ a n c, v = .slice a n c ∧ ∃ ks : Nat → CallD, CallsAt w a n ks := by
  obtain ⟨a, n, c, rfl⟩ := okWide_slice Try.underlying26 hv
  obtain ⟨fuel, hf⟩ := h
  rcases DataW.trod_slice Try.underlying26 hf with ⟨hcs, _⟩ | ⟨x, l, c', elems, rest, m, _, hcs, _, hb, hl, hm, hlen, hel, _⟩
  · simp [Value.cells] at hcs
    obtain ⟨rfl, rfl, rfl⟩ := hcs
    exact ⟨none, 0, 0, rfl, fun _ => ⟨0, 0, 0, 0, 0, 0, 0, 0, 0⟩, fun h => (h rfl).elim⟩
  · simp [Value.cells] at hcs
    obtain ⟨rfl, rfl, rfl⟩ := hcs
    have c9 : Try.prog.cellsOf 47 = 9 := by kernel_rfl
    have each : ∀ i, ∃ k : CallD, i < n → (∀ j, j < 9 → w.cell? ((x.add (i * 9)).add j) = k.vals[j]?) ∧ k.fits := fun i => by
      by_cases hi : i < n
      · have h1 := hel i hi
        rw [c9, List.getElem?_eq_getElem (show i < elems.length by omega), Option.bind_eq_some_iff] at h1
        obtain ⟨cs, h2, h3⟩ := h1
        unfold World.cells? at h2
        split at h2
        · obtain ⟨k, rfl, hfit⟩ := trod_call h3
          refine ⟨k, fun _ => ⟨fun j hj => ?_, hfit⟩⟩
          have g := mapM_some_get h2 j j (by simp [hj])
          rw [g]
          rcases (show j = 0 ∨ j = 1 ∨ j = 2 ∨ j = 3 ∨ j = 4 ∨ j = 5 ∨ j = 6 ∨ j = 7 ∨ j = 8 by omega) with rfl | rfl | rfl | rfl | rfl | rfl | rfl | rfl | rfl <;> rfl
        · cases h2
      · exact ⟨⟨0, 0, 0, 0, 0, 0, 0, 0, 0⟩, fun h => (hi h).elim⟩
    obtain ⟨ks, spec⟩ : ∃ ks : Nat → CallD, ∀ i, i < n → (∀ j, j < 9 → w.cell? ((x.add (i * 9)).add j) = (ks i).vals[j]?) ∧ (ks i).fits :=
      ⟨fun i => Classical.choose (each i), fun i => Classical.choose_spec (each i)⟩
    refine ⟨_, n, c, rfl, ks, fun hn => ?_⟩
    obtain ⟨b, o, spot⟩ := x
    have h0 := (spec 0 (by omega)).1 0 (by decide)
    have h0' : w.cell? ((({ block := b, off := o, spot := spot } : Addr).add (0 * 9)).add 0) = some (.int .u8 (((ks 0).wh : Nat) : Int)) := h0
    have hspot : spot = none := by simpa [Addr.add] using World.cell?_spot h0'
    subst hspot
    refine ⟨b, o, rfl, fun j hj => ⟨fun i hi => ?_, (spec j hj).2⟩⟩
    have g := (spec j hj).1 i hi
    rwa [Addr.add_mid, Addr.add_mid] at g
end

theorem headTells_any (ho : HeadOk) (ha : HeadAwake) (s e l : Nat) (a1 a2 a3 : Option Addr) (n1 c1 n2 c2 n3 c3 : Nat) (b1 b2 : List UInt8) (ks : Nat → CallD) (w : World) (hf : (HeadD.mk s e l).fits) (h1 : Bytes w (.slice a1 n1 c1) b1) (h2 : Bytes w (.slice a2 n2 c2) b2) (h3 : CallsAt w a3 n3 ks) :
    Calls Try.prog 3 #[.agg #[.int .u64 ((s : Nat) : Int), .int .u64 ((e : Nat) : Int), .int .u8 ((l : Nat) : Int)], .slice a1 n1 c1, .slice a2 n2 c2, .slice a3 n3 c3] w fun x w' => x = .returned (.bool true) ∧ Below w.heap.size w w' := by
  by_cases h : 40 < n1 ∨ 40 < n2 ∨ 30 < n3
  · exact headTells_out ha s e l a1 a2 a3 n1 c1 n2 c2 n3 c3 w h
  · exact headTells_in ho ha s e l a1 a2 a3 n1 c1 n2 c2 n3 c3 b1 b2 ks w hf h1 h2 h3 (by omega) (by omega) (by omega)
end Go.Proofs.Ytoabpjdpdcpdlaa
