/- A row of blows that came in: what its cells are. No statement of the seat is proved here. -/
import Derived.Test.YtflfiobicapopaaBase15
namespace Go.Proofs.Ytflfiobicapopaa
open Go.ChangeShapes Go.WideShapes Go.ChangeAt Go.RowKit

structure BlowD where
  sa : Option Addr
  sn : Nat
  sc : Nat
  rows : List (List UInt8)
  turn : Bool
  crash : Bool
  at' : Nat
  part : Nat
  k0 : Int
  k1 : Int
  k2 : Int
  k3 : Int
  again : Nat
  o0 : Int
  o1 : Int
  o2 : Int
  o3 : Int
def BlowD.fits (w : World) (x : BlowD) : Prop := RowsAt w (.slice x.sa x.sn x.sc) x.rows ∧ x.rows.length = x.sn ∧ x.sn ≤ 9223372036854775807 ∧ x.at' < 256 ∧ x.part < 256 ∧ x.again < 256
def BlowD.vals (x : BlowD) : Array Value := #[.slice x.sa x.sn x.sc, .bool x.turn, .bool x.crash, .int .u8 ((x.at' : Nat) : Int), .int .u8 ((x.part : Nat) : Int), .int .i64 x.k0, .int .i64 x.k1, .int .i64 x.k2, .int .i64 x.k3, .int .u8 ((x.again : Nat) : Int), .int .i64 x.o0, .int .i64 x.o1, .int .i64 x.o2, .int .i64 x.o3]
/-- A row of blows that came in. -/
def BlowsAt (w : World) (a : Option Addr) (n : Nat) (ks : Nat → BlowD) : Prop := n ≠ 0 → ∃ b o, a = some ⟨b, o, none⟩ ∧ ∀ j, j < n → (∀ i, i < 14 → w.cell? ⟨b, o + j * 14 + i, none⟩ = (ks j).vals[i]?) ∧ (ks j).fits w

section
variable {H : Type} {enc : TypeId × Value → H} {w : World} {base : Nat} {spare : Nat → Bool} {held : Bool}

theorem fourteen_of {l : List Value} (h : l.length = 14) : ∃ v0 v1 v2 v3 v4 v5 v6 v7 v8 v9 va vb vc vd, l = [v0, v1, v2, v3, v4, v5, v6, v7, v8, v9, va, vb, vc, vd] := by
  match l, h with
  | [v0, v1, v2, v3, v4, v5, v6, v7, v8, v9, va, vb, vc, vd], _ => exact ⟨v0, v1, v2, v3, v4, v5, v6, v7, v8, v9, va, vb, vc, vd, rfl⟩
theorem at_someJ {α : Type} {xs : List α} {n i : Nat} (h : xs.length = n) (hi : i < n) : ∃ x, xs[i]? = some x := ⟨xs[i], List.getElem?_eq_getElem (by omega)⟩

theorem trod_four {fuel : Nat} {v5 v6 v7 v8 : Value} {x : DataW H × List MemPlace} (f3 : DataW.trod enc Try.prog w base spare held fuel 24 [v5, v6, v7, v8] = some x) : ∃ k0 k1 k2 k3 : Int, v5 = .int .i64 k0 ∧ v6 = .int .i64 k1 ∧ v7 = .int .i64 k2 ∧ v8 = .int .i64 k3 := by
  have c3 : Try.prog.cellsOf 3 = 1 := by kernel_rfl
  obtain ⟨ks, m4, _, _, _, hk4, hks⟩ := DataW.trod_array Try.underlying24 f3
  have hk : ∀ i, i < 4 → ∃ k, [v5, v6, v7, v8][i]? = some (.int .i64 k) := fun i hi => by
    have h1 := hks i hi
    obtain ⟨y, ey⟩ := at_someJ hk4 (i := i) hi
    rw [c3, Nat.mul_one, ey] at h1
    obtain ⟨k, g, _⟩ := DataW.trod_int Try.underlying3 h1
    refine ⟨k, ?_⟩
    rcases (show i = 0 ∨ i = 1 ∨ i = 2 ∨ i = 3 by omega) with rfl | rfl | rfl | rfl <;> simp at g ⊢ <;> exact g
  obtain ⟨k0, g4⟩ := hk 0 (by omega)
  obtain ⟨k1, g5⟩ := hk 1 (by omega)
  obtain ⟨k2, g6⟩ := hk 2 (by omega)
  obtain ⟨k3, g7⟩ := hk 3 (by omega)
  simp at g4 g5 g6 g7
  exact ⟨k0, k1, k2, k3, g4, g5, g6, g7⟩

theorem trod_blow {fuel : Nat} {cs : List Value} {x : DataW H × List MemPlace} (h : DataW.trod enc Try.prog w base spare held fuel 26 cs = some x) :
    ∃ k : BlowD, cs = k.vals.toList ∧ k.fits w := by
  obtain ⟨xs, m, _, _, hl, hlen, hf⟩ := DataW.trod_struct Try.underlying26 h
  have hl9 : cs.length = 14 := hl.trans (by kernel_rfl)
  obtain ⟨v0, v1, v2, v3, v4, v5, v6, v7, v8, v9, va, vb, vc, vd, rfl⟩ := fourteen_of hl9
  have c5 : Try.prog.cellsOf 5 = 1 := by kernel_rfl
  have c4 : Try.prog.cellsOf 4 = 1 := by kernel_rfl
  have c23 : Try.prog.cellsOf 23 = 1 := by kernel_rfl
  have c45 : Try.prog.cellsOf 24 = 4 := by kernel_rfl
  have hlen' : xs.length = 8 := hlen
  obtain ⟨y0, e0⟩ := at_someJ hlen' (i := 0) (by omega)
  obtain ⟨y1, e1⟩ := at_someJ hlen' (i := 1) (by omega)
  obtain ⟨y2, e2⟩ := at_someJ hlen' (i := 2) (by omega)
  obtain ⟨y3, e3⟩ := at_someJ hlen' (i := 3) (by omega)
  obtain ⟨y4, e4⟩ := at_someJ hlen' (i := 4) (by omega)
  obtain ⟨y5, e5⟩ := at_someJ hlen' (i := 5) (by omega)
  obtain ⟨y6, e6⟩ := at_someJ hlen' (i := 6) (by omega)
  obtain ⟨y7, e7⟩ := at_someJ hlen' (i := 7) (by omega)
  have f0 : DataW.trod enc Try.prog w base spare held m 23 (([v0, v1, v2, v3, v4, v5, v6, v7, v8, v9, va, vb, vc, vd].drop 0).take (Try.prog.cellsOf 23)) = some y0 := (hf 0 _ rfl).trans e0
  rw [c23] at f0
  replace f0 : DataW.trod enc Try.prog w base spare held m 23 [v0] = some y0 := f0
  have f1 : DataW.trod enc Try.prog w base spare held m 4 (([v0, v1, v2, v3, v4, v5, v6, v7, v8, v9, va, vb, vc, vd].drop 1).take (Try.prog.cellsOf 4)) = some y1 := (hf 1 _ rfl).trans e1
  rw [c4] at f1
  replace f1 : DataW.trod enc Try.prog w base spare held m 4 [v1] = some y1 := f1
  have f2 : DataW.trod enc Try.prog w base spare held m 4 (([v0, v1, v2, v3, v4, v5, v6, v7, v8, v9, va, vb, vc, vd].drop 2).take (Try.prog.cellsOf 4)) = some y2 := (hf 2 _ rfl).trans e2
  rw [c4] at f2
  replace f2 : DataW.trod enc Try.prog w base spare held m 4 [v2] = some y2 := f2
  have f3 : DataW.trod enc Try.prog w base spare held m 5 (([v0, v1, v2, v3, v4, v5, v6, v7, v8, v9, va, vb, vc, vd].drop 3).take (Try.prog.cellsOf 5)) = some y3 := (hf 3 _ rfl).trans e3
  rw [c5] at f3
  replace f3 : DataW.trod enc Try.prog w base spare held m 5 [v3] = some y3 := f3
  have f4 : DataW.trod enc Try.prog w base spare held m 5 (([v0, v1, v2, v3, v4, v5, v6, v7, v8, v9, va, vb, vc, vd].drop 4).take (Try.prog.cellsOf 5)) = some y4 := (hf 4 _ rfl).trans e4
  rw [c5] at f4
  replace f4 : DataW.trod enc Try.prog w base spare held m 5 [v4] = some y4 := f4
  have f5 : DataW.trod enc Try.prog w base spare held m 24 (([v0, v1, v2, v3, v4, v5, v6, v7, v8, v9, va, vb, vc, vd].drop 5).take (Try.prog.cellsOf 24)) = some y5 := (hf 5 _ rfl).trans e5
  rw [c45] at f5
  replace f5 : DataW.trod enc Try.prog w base spare held m 24 [v5, v6, v7, v8] = some y5 := f5
  have f6 : DataW.trod enc Try.prog w base spare held m 5 (([v0, v1, v2, v3, v4, v5, v6, v7, v8, v9, va, vb, vc, vd].drop 9).take (Try.prog.cellsOf 5)) = some y6 := (hf 6 _ rfl).trans e6
  rw [c5] at f6
  replace f6 : DataW.trod enc Try.prog w base spare held m 5 [v9] = some y6 := f6
  have f7 : DataW.trod enc Try.prog w base spare held m 24 (([v0, v1, v2, v3, v4, v5, v6, v7, v8, v9, va, vb, vc, vd].drop 10).take (Try.prog.cellsOf 24)) = some y7 := (hf 7 _ rfl).trans e7
  rw [c45] at f7
  replace f7 : DataW.trod enc Try.prog w base spare held m 24 [va, vb, vc, vd] = some y7 := f7
  obtain ⟨rows, hr, _, hm⟩ := trod_rows f0
  obtain ⟨sa, sc, rfl, _⟩ := hr.form
  obtain ⟨b1, g1, _⟩ := DataW.trod_bool Try.underlying4 f1
  obtain ⟨b2, g2, _⟩ := DataW.trod_bool Try.underlying4 f2
  obtain ⟨x3, g3, _, w3⟩ := DataW.trod_int Try.underlying5 f3
  obtain ⟨x4, g4, _, w4⟩ := DataW.trod_int Try.underlying5 f4
  obtain ⟨p0, p1, p2, p3, rfl, rfl, rfl, rfl⟩ := trod_four f5
  obtain ⟨x6, g6, _, w6⟩ := DataW.trod_int Try.underlying5 f6
  obtain ⟨q0, q1, q2, q3, rfl, rfl, rfl, rfl⟩ := trod_four f7
  simp at g1 g2 g3 g4 g6
  subst g1 g2 g3 g4 g6
  have r3 : 0 ≤ x3 ∧ x3 ≤ 255 := by simpa [Lit.wf, IntKind.min, IntKind.max, IntKind.signed, IntKind.bits] using w3
  have r4 : 0 ≤ x4 ∧ x4 ≤ 255 := by simpa [Lit.wf, IntKind.min, IntKind.max, IntKind.signed, IntKind.bits] using w4
  have r6 : 0 ≤ x6 ∧ x6 ≤ 255 := by simpa [Lit.wf, IntKind.min, IntKind.max, IntKind.signed, IntKind.bits] using w6
  refine ⟨⟨sa, rows.length, sc, rows, b1, b2, x3.toNat, x4.toNat, p0, p1, p2, p3, x6.toNat, q0, q1, q2, q3⟩, ?_, hr, rfl, hm, by show x3.toNat < 256; omega, by show x4.toNat < 256; omega, by show x6.toNat < 256; omega⟩
  have h3 : ((x3.toNat : Nat) : Int) = x3 := by omega
  have h4 : ((x4.toNat : Nat) : Int) = x4 := by omega
  have h6 : ((x6.toNat : Nat) : Int) = x6 := by omega
  simp only [BlowD.vals, h3, h4, h6]

set_option maxRecDepth 100000 in
/-- A row of blows that came in. -/
theorem open_blows {r0 : Reach} {b0 : Nat} {v : Value} {d : DataW H} {ps : List MemPlace} (hv : Value.okWide Try.prog w r0 b0 22 v) (h : DataW.Trod enc Try.prog w base spare held 22 v d ps) :
    ∃ a n c, v = .slice a n c ∧ n ≤ 9223372036854775807 ∧ ∃ ks : Nat → BlowD, BlowsAt w a n ks := by
  obtain ⟨a, n, c, rfl⟩ := okWide_slice Try.underlying22 hv
  obtain ⟨fuel, hf⟩ := h
  rcases DataW.trod_slice Try.underlying22 hf with ⟨hcs, _⟩ | ⟨x, l, c', elems, rest, m, _, hcs, _, hb, hl, hm, hlen, hel, _⟩
  · simp [Value.cells] at hcs
    obtain ⟨rfl, rfl, rfl⟩ := hcs
    exact ⟨none, 0, 0, rfl, by omega, fun _ => ⟨none, 0, 0, [], false, false, 0, 0, 0, 0, 0, 0, 0, 0, 0, 0, 0⟩, fun h => (h rfl).elim⟩
  · simp [Value.cells] at hcs
    obtain ⟨rfl, rfl, rfl⟩ := hcs
    have c9 : Try.prog.cellsOf 26 = 14 := by kernel_rfl
    have each : ∀ i, ∃ k : BlowD, i < n → (∀ j, j < 14 → w.cell? ((x.add (i * 14)).add j) = k.vals[j]?) ∧ k.fits w := fun i => by
      by_cases hi : i < n
      · have h1 := hel i hi
        rw [c9, List.getElem?_eq_getElem (show i < elems.length by omega), Option.bind_eq_some_iff] at h1
        obtain ⟨cs, h2, h3⟩ := h1
        unfold World.cells? at h2
        split at h2
        · obtain ⟨k, rfl, hfit⟩ := trod_blow h3
          refine ⟨k, fun _ => ⟨fun j hj => ?_, hfit⟩⟩
          have g := mapM_some_get h2 j j (by simp [hj])
          rw [g]
          rcases (show j = 0 ∨ j = 1 ∨ j = 2 ∨ j = 3 ∨ j = 4 ∨ j = 5 ∨ j = 6 ∨ j = 7 ∨ j = 8 ∨ j = 9 ∨ j = 10 ∨ j = 11 ∨ j = 12 ∨ j = 13 by omega) with rfl | rfl | rfl | rfl | rfl | rfl | rfl | rfl | rfl | rfl | rfl | rfl | rfl | rfl <;> rfl
        · cases h2
      · exact ⟨⟨none, 0, 0, [], false, false, 0, 0, 0, 0, 0, 0, 0, 0, 0, 0, 0⟩, fun h => (hi h).elim⟩
    obtain ⟨ks, spec⟩ : ∃ ks : Nat → BlowD, ∀ i, i < n → (∀ j, j < 14 → w.cell? ((x.add (i * 14)).add j) = (ks i).vals[j]?) ∧ (ks i).fits w :=
      ⟨fun i => Classical.choose (each i), fun i => Classical.choose_spec (each i)⟩
    refine ⟨_, n, c, rfl, by have := hm; unfold maxLen at this; omega, ks, fun hn => ?_⟩
    obtain ⟨b, o, spot⟩ := x
    have h0 := (spec 0 (by omega)).1 0 (by decide)
    have h0' : w.cell? ((({ block := b, off := o, spot := spot } : Addr).add (0 * 14)).add 0) = some (.slice (ks 0).sa (ks 0).sn (ks 0).sc) := h0
    have hspot : spot = none := by simpa [Addr.add] using World.cell?_spot h0'
    subst hspot
    refine ⟨b, o, rfl, fun j hj => ⟨fun i hi => ?_, (spec j hj).2⟩⟩
    have g := (spec j hj).1 i hi
    rwa [Addr.add_mid, Addr.add_mid] at g
end

/-- The cells of one of them, in a later world. -/
theorem blow_cells {w W : World} {b o j : Nat} {x : BlowD} (h : ∀ i, i < 14 → w.cell? ⟨b, o + j * 14 + i, none⟩ = x.vals[i]?) (hb : Below w.heap.size w W) :
    W.cell? ⟨b, o + j * 14, none⟩ = some (.slice x.sa x.sn x.sc) ∧ W.cell? ⟨b, o + j * 14 + 1, none⟩ = some (.bool x.turn) ∧ W.cell? ⟨b, o + j * 14 + 2, none⟩ = some (.bool x.crash) ∧ W.cell? ⟨b, o + j * 14 + 3, none⟩ = some (.int .u8 ((x.at' : Nat) : Int)) ∧ W.cell? ⟨b, o + j * 14 + 4, none⟩ = some (.int .u8 ((x.part : Nat) : Int)) ∧
    W.cell? ⟨b, o + j * 14 + 5, none⟩ = some (.int .i64 x.k0) ∧ W.cell? ⟨b, o + j * 14 + 6, none⟩ = some (.int .i64 x.k1) ∧ W.cell? ⟨b, o + j * 14 + 7, none⟩ = some (.int .i64 x.k2) ∧ W.cell? ⟨b, o + j * 14 + 8, none⟩ = some (.int .i64 x.k3) ∧ W.cell? ⟨b, o + j * 14 + 9, none⟩ = some (.int .u8 ((x.again : Nat) : Int)) ∧
    W.cell? ⟨b, o + j * 14 + 10, none⟩ = some (.int .i64 x.o0) ∧ W.cell? ⟨b, o + j * 14 + 11, none⟩ = some (.int .i64 x.o1) ∧ W.cell? ⟨b, o + j * 14 + 12, none⟩ = some (.int .i64 x.o2) ∧ W.cell? ⟨b, o + j * 14 + 13, none⟩ = some (.int .i64 x.o3) := by
  have g : ∀ i v, i < 14 → x.vals[i]? = some v → W.cell? ⟨b, o + j * 14 + i, none⟩ = some v := fun i v hi hv => by
    have h1 := (h i hi).trans hv
    exact (hb.cell (p := ⟨b, o + j * 14 + i, none⟩) (World.block_lt_of_cell? _ _ h1)).trans h1
  exact ⟨g 0 _ (by decide) rfl, g 1 _ (by decide) rfl, g 2 _ (by decide) rfl, g 3 _ (by decide) rfl, g 4 _ (by decide) rfl, g 5 _ (by decide) rfl, g 6 _ (by decide) rfl, g 7 _ (by decide) rfl, g 8 _ (by decide) rfl, g 9 _ (by decide) rfl, g 10 _ (by decide) rfl, g 11 _ (by decide) rfl, g 12 _ (by decide) rfl, g 13 _ (by decide) rfl⟩
/-- The cells of a block of one. -/
theorem blow_block {W : World} {g : Nat} {x : BlowD} {t : TypeId} {fr : Nat × Nat} (h : W.heap[g]? = some (.cells x.vals t fr)) :
    W.cell? ⟨g, 0, none⟩ = some (.slice x.sa x.sn x.sc) ∧ W.cell? ⟨g, 1, none⟩ = some (.bool x.turn) ∧ W.cell? ⟨g, 2, none⟩ = some (.bool x.crash) ∧ W.cell? ⟨g, 3, none⟩ = some (.int .u8 ((x.at' : Nat) : Int)) ∧ W.cell? ⟨g, 4, none⟩ = some (.int .u8 ((x.part : Nat) : Int)) ∧
    W.cell? ⟨g, 5, none⟩ = some (.int .i64 x.k0) ∧ W.cell? ⟨g, 6, none⟩ = some (.int .i64 x.k1) ∧ W.cell? ⟨g, 7, none⟩ = some (.int .i64 x.k2) ∧ W.cell? ⟨g, 8, none⟩ = some (.int .i64 x.k3) ∧ W.cell? ⟨g, 9, none⟩ = some (.int .u8 ((x.again : Nat) : Int)) ∧
    W.cell? ⟨g, 10, none⟩ = some (.int .i64 x.o0) ∧ W.cell? ⟨g, 11, none⟩ = some (.int .i64 x.o1) ∧ W.cell? ⟨g, 12, none⟩ = some (.int .i64 x.o2) ∧ W.cell? ⟨g, 13, none⟩ = some (.int .i64 x.o3) := by
  have k : ∀ i v, x.vals[i]? = some v → W.cell? ⟨g, i, none⟩ = some v := fun i v hv => by
    rw [cell_of_row _ _ i _ _ _ h]; exact hv
  exact ⟨k 0 _ rfl, k 1 _ rfl, k 2 _ rfl, k 3 _ rfl, k 4 _ rfl, k 5 _ rfl, k 6 _ rfl, k 7 _ rfl, k 8 _ rfl, k 9 _ rfl, k 10 _ rfl, k 11 _ rfl, k 12 _ rfl, k 13 _ rfl⟩

set_option maxRecDepth 100000 in
set_option maxHeartbeats 2000000 in
theorem low_bytesW (u : Value) (xs : List (List UInt8)) (w : World) (h : RowsAt w u xs) (hl : xs.length ≤ 9223372036854775807) : Calls Try.prog 8 #[u] w fun e w' => e = .returned (.int .i64 (wrap64 ((total xs : Nat) : Int))) ∧ w' = w := by
  obtain ⟨a, c, rfl, _⟩ := h.form
  obtain ⟨n, hn⟩ : ∃ n, n = xs.length := ⟨_, rfl⟩
  rw [← hn] at h hl ⊢
  have HH := hide h
  have HN := hide hn
  clear h hn
  go_enter Try.func8, Try.ntmps8
  go_wp2_with fail
  go_loopw [3, 8] (fun s i W => ∃ j : Nat, j ≤ n ∧ i = .int .i64 j ∧ s = .int .i64 (wrap64 ((total (xs.take j) : Nat) : Int)) ∧ W = w) (fun _ i _ => n - (intOf i).toNat)
  case atStart => exact ⟨0, Nat.zero_le _, rfl, by simp [total, wrap64], rfl⟩
  case round =>
    obtain ⟨j, hj, rfl, rfl, rfl⟩ := hrel
    by_cases hlt : j < n
    · obtain ⟨x, hx⟩ := some_get (xs := xs) (j := j) (by have := unhide HN; omega)
      obtain ⟨b1, o1, v1, e1, x1, x3⟩ := (unhide HH).at hx
      subst e1
      obtain ⟨d1, k1, ed1, _⟩ := x3.form
      subst ed1
      have i1 : (j : Int) < (n : Int) := by omega
      have HTT := hide (total_take xs hx)
      have HWA := hide (wrap_add ((total (xs.take j) : Nat) : Int) ((x.length : Nat) : Int))
      clear x3 hx
      generalize total (xs.take j) = t0 at *
      generalize x.length = nx at *
      generalize wrap64 ((t0 : Nat) : Int) = s0 at *
      go_wp2_with fail
      exact ⟨⟨j + 1, by omega, by go_num, by rw [unhide HTT, unhide HWA]; push_cast; rfl, by trivial⟩, by simp [intOf]; omega⟩
    · have e : n = j := by omega
      subst e
      have HT : Hid (xs.take n = xs) := List.take_of_length_le (by have := unhide HN; omega)
      rw [unhide HT]
      go_wp2_with fail
      go_ret
      exact ⟨rfl, rfl⟩
end Go.Proofs.Ytflfiobicapopaa
