/- How a slice of ops that came in is opened. No statement of the seat is proved here. -/
import Derived.Test.YtbpjlkjokafdnaaFrame
import Derived.Test.YtbpjlkjokafdnaaTells1
namespace Go.Proofs.Ytbpjlkjokafdnaa
open Go.ChangeShapes Go.WideShapes Go.ChangeAt Go.RowKit

section
variable {H : Type} {enc : TypeId × Value → H} {w : World} {base : Nat} {spare : Nat → Bool} {held : Bool}

/-- A slice of bytes within what came in. -/
theorem trod_bytes {fuel : Nat} {v : Value} {x : DataW H × List MemPlace} (h : DataW.trod enc Try.prog w base spare held fuel 28 [v] = some x) : ∃ a n c bs, v = .slice a n c ∧ Bytes w (.slice a n c) bs := by
  rcases open_ints Try.underlying28 Try.underlying5 (by kernel_rfl) h with ⟨hcs, _⟩ | ⟨x, l, c', zs, hcs, _, hl, hm, hz, _, hcell, hwz⟩
  · simp at hcs
    exact ⟨none, 0, 0, [], hcs, .inl ⟨rfl, rfl⟩⟩
  · simp at hcs
    subst hcs
    have hzl : l ≤ zs.length := by rw [hz]; split <;> omega
    refine ⟨_, l, c', (zs.take l).map (fun x => UInt8.ofNat x.toNat), rfl, .inr ⟨x, c', by simp; omega, by simp; omega, hm, fun j u hu => ?_⟩⟩
    have hj : j < l := by have := (List.getElem?_eq_some_iff.1 hu).1; simp at this; omega
    have hw := hwz (zs.getD j 0) (by rw [List.getD_eq_getElem?_getD, List.getElem?_eq_getElem (by omega)]; simp)
    have hb : 0 ≤ zs.getD j 0 ∧ zs.getD j 0 ≤ 255 := by simpa [Lit.wf, IntKind.min, IntKind.max, IntKind.signed, IntKind.bits] using hw
    rw [hcell j (by omega)]
    rw [List.map_map, List.getElem?_map, List.getElem?_take, if_pos hj, List.getElem?_eq_getElem (by omega)] at hu
    simp only [Option.map_some, Function.comp_apply, Option.some.injEq] at hu
    rw [← hu, List.getD_eq_getElem?_getD, List.getElem?_eq_getElem (by omega)]
    rw [List.getD_eq_getElem?_getD, List.getElem?_eq_getElem (by omega)] at hb
    simp only [Option.getD_some] at hb ⊢
    unfold bv
    rw [UInt8.toNat_ofNat']
    congr 2
    omega

theorem eight_of {l : List Value} (h : l.length = 8) : ∃ a b c d e f g i, l = [a, b, c, d, e, f, g, i] := by
  match l, h with
  | [a, b, c, d, e, f, g, i], _ => exact ⟨a, b, c, d, e, f, g, i, rfl⟩

theorem some_at {α : Type} {l : List α} {n i : Nat} (h : l.length = n) (hi : i < n) : ∃ y, l[i]? = some y := ⟨l[i], List.getElem?_eq_getElem (by omega)⟩

/-- An op within what came in: what its cells are. -/
theorem trod_op {fuel : Nat} {cs : List Value} {x : DataW H × List MemPlace} (h : DataW.trod enc Try.prog w base spare held fuel 37 cs = some x) :
    ∃ wh sg nn k0 k1 k2 k3 a n c bs, cs = [.int .u8 wh, .int .i64 sg, .int .i64 nn, .slice a n c, .int .i64 k0, .int .i64 k1, .int .i64 k2, .int .i64 k3] ∧ Bytes w (.slice a n c) bs ∧ (0 ≤ wh ∧ wh < 256) ∧ nn ≤ 9223372036854775807 := by
  obtain ⟨xs, m, _, _, hl, hlen, hf⟩ := DataW.trod_struct Try.underlying37 h
  have hl8 : cs.length = 8 := hl.trans (by kernel_rfl)
  obtain ⟨v0, v1, v2, v3, v4, v5, v6, v7, rfl⟩ := eight_of hl8
  have c5 : Try.prog.cellsOf 5 = 1 := by kernel_rfl
  have c3 : Try.prog.cellsOf 3 = 1 := by kernel_rfl
  have c28 : Try.prog.cellsOf 28 = 1 := by kernel_rfl
  have c35 : Try.prog.cellsOf 35 = 4 := by kernel_rfl
  have hlen' : xs.length = 5 := hlen
  obtain ⟨y0, e0⟩ := some_at hlen' (i := 0) (by omega)
  obtain ⟨y1, e1⟩ := some_at hlen' (i := 1) (by omega)
  obtain ⟨y2, e2⟩ := some_at hlen' (i := 2) (by omega)
  obtain ⟨y3, e3⟩ := some_at hlen' (i := 3) (by omega)
  obtain ⟨y4, e4⟩ := some_at hlen' (i := 4) (by omega)
  have f0 : DataW.trod enc Try.prog w base spare held m 5 (([v0, v1, v2, v3, v4, v5, v6, v7].drop 0).take (Try.prog.cellsOf 5)) = some y0 := (hf 0 _ rfl).trans e0
  rw [c5] at f0
  replace f0 : DataW.trod enc Try.prog w base spare held m 5 [v0] = some y0 := f0
  have f1 : DataW.trod enc Try.prog w base spare held m 3 (([v0, v1, v2, v3, v4, v5, v6, v7].drop 1).take (Try.prog.cellsOf 3)) = some y1 := (hf 1 _ rfl).trans e1
  rw [c3] at f1
  replace f1 : DataW.trod enc Try.prog w base spare held m 3 [v1] = some y1 := f1
  have f2 : DataW.trod enc Try.prog w base spare held m 3 (([v0, v1, v2, v3, v4, v5, v6, v7].drop 2).take (Try.prog.cellsOf 3)) = some y2 := (hf 2 _ rfl).trans e2
  rw [c3] at f2
  replace f2 : DataW.trod enc Try.prog w base spare held m 3 [v2] = some y2 := f2
  have f3 : DataW.trod enc Try.prog w base spare held m 28 (([v0, v1, v2, v3, v4, v5, v6, v7].drop 3).take (Try.prog.cellsOf 28)) = some y3 := (hf 3 _ rfl).trans e3
  rw [c28] at f3
  replace f3 : DataW.trod enc Try.prog w base spare held m 28 [v3] = some y3 := f3
  have f4 : DataW.trod enc Try.prog w base spare held m 35 (([v0, v1, v2, v3, v4, v5, v6, v7].drop 4).take (Try.prog.cellsOf 35)) = some y4 := (hf 4 _ rfl).trans e4
  rw [c35] at f4
  replace f4 : DataW.trod enc Try.prog w base spare held m 35 [v4, v5, v6, v7] = some y4 := f4
  obtain ⟨wh, g0, _, w0⟩ := DataW.trod_int Try.underlying5 f0
  obtain ⟨sg, g1, _, w1⟩ := DataW.trod_int Try.underlying3 f1
  obtain ⟨nn, g2, _, w2⟩ := DataW.trod_int Try.underlying3 f2
  obtain ⟨a, n, c, bs, g3, hb⟩ := trod_bytes f3
  obtain ⟨ks, m4, _, _, _, hk4, hks⟩ := DataW.trod_array Try.underlying35 f4
  have hk : ∀ i, i < 4 → ∃ k, [v4, v5, v6, v7][i]? = some (.int .i64 k) := fun i hi => by
    have h1 := hks i hi
    obtain ⟨y, ey⟩ := some_at hk4 (i := i) hi
    rw [c3, Nat.mul_one, ey] at h1
    obtain ⟨k, g, _⟩ := DataW.trod_int Try.underlying3 h1
    refine ⟨k, ?_⟩
    rcases (show i = 0 ∨ i = 1 ∨ i = 2 ∨ i = 3 by omega) with rfl | rfl | rfl | rfl <;> simp at g ⊢ <;> exact g
  obtain ⟨k0, g4⟩ := hk 0 (by omega)
  obtain ⟨k1, g5⟩ := hk 1 (by omega)
  obtain ⟨k2, g6⟩ := hk 2 (by omega)
  obtain ⟨k3, g7⟩ := hk 3 (by omega)
  simp at g0 g1 g2 g4 g5 g6 g7
  subst g0 g1 g2 g3 g4 g5 g6 g7
  refine ⟨wh, sg, nn, k0, k1, k2, k3, a, n, c, bs, rfl, hb, ?_, ?_⟩
  · have : 0 ≤ wh ∧ wh ≤ 255 := by simpa [Lit.wf, IntKind.min, IntKind.max, IntKind.signed, IntKind.bits] using w0
    omega
  · have : -9223372036854775808 ≤ nn ∧ nn ≤ 9223372036854775807 := by simpa [Lit.wf, IntKind.min, IntKind.max, IntKind.signed, IntKind.bits] using w2
    omega

/-- A slice of ops that came in. -/
theorem open_ops {r : Reach} {b0 : Nat} {v : Value} {d : DataW H} {ps : List MemPlace} (hv : Value.okWide Try.prog w r b0 22 v) (h : DataW.Trod enc Try.prog w base spare held 22 v d ps) : ∃ a n c, v = .slice a n c ∧ n ≤ c ∧ OpsAt w a n := by
  obtain ⟨a, n, c, rfl⟩ := okWide_slice Try.underlying22 hv
  obtain ⟨fuel, hf⟩ := h
  rcases DataW.trod_slice Try.underlying22 hf with ⟨hcs, _⟩ | ⟨x, l, c', elems, rest, m, _, hcs, _, hb, hl, hm, hlen, hel, _⟩
  · simp [Value.cells] at hcs
    obtain ⟨rfl, rfl, rfl⟩ := hcs
    exact ⟨none, 0, 0, rfl, Nat.le_refl _, .inl rfl⟩
  · simp [Value.cells] at hcs
    obtain ⟨rfl, rfl, rfl⟩ := hcs
    refine ⟨_, n, c, rfl, hl, ?_⟩
    by_cases hn : n = 0
    · exact .inl hn
    right
    have c37 : Try.prog.cellsOf 37 = 8 := by kernel_rfl
    have each : ∀ i, i < n → ∃ cs y, (List.range 8).mapM (fun j => w.cell? ((x.add (i * 8)).add j)) = some cs ∧ DataW.trod enc Try.prog w base spare held m 37 cs = some y := fun i hi => by
      have h1 := hel i hi
      obtain ⟨y, ey⟩ := some_at hlen (i := i) hi
      rw [c37, ey, Option.bind_eq_some_iff] at h1
      obtain ⟨cs, h2, h3⟩ := h1
      unfold World.cells? at h2
      split at h2
      · exact ⟨cs, y, h2, h3⟩
      · cases h2
    obtain ⟨b, o, spot⟩ := x
    obtain ⟨cs0, y0, h0, _⟩ := each 0 (by omega)
    have hl0 : cs0.length = 8 := by simpa using mapM_some_length h0
    obtain ⟨u, hu⟩ := some_at hl0 (i := 0) (by omega)
    have hc0 : w.cell? (((⟨b, o, spot⟩ : Addr).add (0 * 8)).add 0) = some u := (mapM_some_get h0 0 0 rfl).trans hu
    have hspot : spot = none := by simpa [Addr.add] using World.cell?_spot hc0
    subst hspot
    refine ⟨b, o, rfl, fun i hi => ?_⟩
    obtain ⟨cs, y, h1, h2⟩ := each i hi
    obtain ⟨wh, sg, nn, k0, k1, k2, k3, a, n', c', bs, rfl, r1, r2, r3⟩ := trod_op h2
    refine ⟨wh, sg, nn, k0, k1, k2, k3, a, n', c', bs, fun j u hu => ?_, r1, r2, r3⟩
    have hj : j < 8 := (List.getElem?_eq_some_iff.1 hu).1
    have h3 := mapM_some_get h1 j j (by simp [hj])
    rw [hu, Addr.add_mid, Addr.add_mid] at h3
    rw [Nat.mul_comm 8 i]
    exact h3
end
end Go.Proofs.Ytbpjlkjokafdnaa
