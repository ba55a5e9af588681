/- GenFrame, ValFrame, FragFrame, OpFrame, OpDoor: our own definitions and contracts; no statement of the seat is proved here. -/
import Derived.Test.YtdlbpbglidhlfaaGreatDoorBase00
import Derived.Test.YtdlbpbglidhlfaaGreatDoorRows
import Derived.ProofKit
import Derived.OpenShut
import Derived.Test.YtdlbpbglidhlfaaGreatDoorBase01
import Derived.Test.YtdlbpbglidhlfaaGreatDoorBase02
import Derived.Test.YtdlbpbglidhlfaaGreatDoorBase08
import Derived.Lib.LaidTab
import Derived.LaidMore
import Derived.Stop.Joined
namespace Go.Proofs.YtdlbpbglidhlfaaGreatDoor
open Go.ChangeShapes Go.WideShapes Go.ChangeAt Go.RowKit

section
variable {H : Type} {enc : TypeId × Value → H} {P : Program} {w : World} {base : Nat} {spare : Nat → Bool} {held : Bool}

/-- An array of numbers by value. -/
theorem open_numbers {n : Nat} {t e : TypeId} {k : IntKind} {r : Reach} {b0 : Nat} {v : Value} {d : DataW H} {ps : List MemPlace} (ht : P.underlying t = some (.array n e)) (he : P.underlying e = some (.int k)) (hce : P.cellsOf e = 1) (hC : P.cellsOf t = n)
    (hv : Value.okWide P w r b0 t v) (h : DataW.Trod enc P w base spare held t v d ps) : ∃ ks : List Int, ks.length = n ∧ v = .agg (ks.map (Value.int k)).toArray ∧ ∀ x ∈ ks, (Lit.int k x).wf = true := by
  simp only [Value.okWide, ht] at hv
  obtain ⟨cs, rfl, hsz, _⟩ := hv
  obtain ⟨fuel, hf⟩ := h
  obtain ⟨xs, m, _, _, _, hxl, hxs⟩ := DataW.trod_array ht hf
  have hcs : ∀ i, i < n → ∃ x, cs[i]? = some (.int k x) ∧ (Lit.int k x).wf = true := fun i hi => by
    have h1 := hxs i hi
    rw [hce, Nat.mul_one] at h1
    have hlt : i < cs.size := by omega
    have hx : xs[i]? = some xs[i] := List.getElem?_eq_getElem (by omega)
    have hd : (cs.toList.drop i).take 1 = [cs[i]] := by
      rw [List.drop_eq_getElem_cons (by simpa using hlt)]
      simp
    have h2 : DataW.trod enc P w base spare held m e [cs[i]] = some xs[i] := by
      rw [← hd, ← hx]; exact h1
    obtain ⟨x, e1, _, e2⟩ := DataW.trod_int he h2
    simp at e1
    exact ⟨x, by rw [Array.getElem?_eq_getElem hlt, e1], e2⟩
  refine ⟨(List.range n).map fun i => intOf (cs.getD i undef), by simp, ?_, fun x hx => ?_⟩
  · congr 1
    apply Array.ext_getElem?
    intro i
    by_cases hi : i < n
    · obtain ⟨x, h1, _⟩ := hcs i hi
      rw [h1]
      simp [hi, intOf, Array.getD_eq_getD_getElem?, h1]
    · rw [Array.getElem?_eq_none (by omega)]
      simp [hi]
  · obtain ⟨i, hi, rfl⟩ := List.mem_map.1 hx
    obtain ⟨x, h1, h2⟩ := hcs i (by simpa using hi)
    simpa [intOf, Array.getD_eq_getD_getElem?, h1] using h2

/-- Numbers that are bytes. -/
theorem bytes_numbers {ks : List Int} (h : ∀ x ∈ ks, (Lit.int .u8 x).wf = true) : ∃ bs : List UInt8, bs.length = ks.length ∧ ks.map (Value.int .u8) = bs.map bv := by
  refine ⟨ks.map fun x => UInt8.ofNat x.toNat, by simp, ?_⟩
  rw [List.map_map]
  refine List.map_congr_left fun x hx => ?_
  have hb : 0 ≤ x ∧ x ≤ 255 := by simpa [Lit.wf, IntKind.min, IntKind.max, IntKind.signed, IntKind.bits] using h x hx
  show Value.int .u8 x = bv (UInt8.ofNat x.toNat)
  unfold bv
  rw [UInt8.toNat_ofNat']
  congr 2
  omega

theorem four_of {l : List Int} (h : l.length = 4) : ∃ a b c d, l = [a, b, c, d] := by
  match l, h with
  | [a, b, c, d], _ => exact ⟨a, b, c, d, rfl⟩

theorem four_bytes {l : List UInt8} (h : l.length = 4) : (l.map bv).toArray = #[.int .u8 ((l.getD 0 0).toNat : Nat), .int .u8 ((l.getD 1 0).toNat : Nat), .int .u8 ((l.getD 2 0).toNat : Nat), .int .u8 ((l.getD 3 0).toNat : Nat)] := by
  match l, h with
  | [a, b, c, d], _ => rfl

/-- A slice of bytes that came in. -/
theorem open_bytes {t e : TypeId} {r : Reach} {b0 : Nat} {v : Value} {d : DataW H} {ps : List MemPlace} (ht : P.underlying t = some (.slice e)) (he : P.underlying e = some (.int .u8)) (hce : P.cellsOf e = 1)
    (hv : Value.okWide P w r b0 t v) (h : DataW.Trod enc P w base spare held t v d ps) : ∃ a n c, v = .slice a n c ∧ n ≤ c ∧ ∃ bs : List UInt8, bs.length = n ∧ Bytes w v bs := by
  obtain ⟨a, n, c, rfl⟩ := okWide_slice ht hv
  obtain ⟨fuel, hf⟩ := h
  rcases open_ints ht he hce hf with ⟨hcs, _⟩ | ⟨x, l, c', zs, hcs, _, hl, hm, hz, _, hcell, hwz⟩
  · simp [Value.cells] at hcs
    obtain ⟨rfl, rfl, rfl⟩ := hcs
    exact ⟨none, 0, 0, rfl, Nat.le_refl _, [], rfl, .inl ⟨rfl, rfl⟩⟩
  · simp [Value.cells] at hcs
    obtain ⟨rfl, rfl, rfl⟩ := hcs
    have hzl : n ≤ zs.length := by rw [hz]; split <;> omega
    refine ⟨_, n, c, rfl, hl, (zs.take n).map (fun x => UInt8.ofNat x.toNat), by simp; omega, .inr ⟨x, c, by simp; omega, by simp; omega, hm, fun j u hu => ?_⟩⟩
    have hj : j < n := by have := (List.getElem?_eq_some_iff.1 hu).1; simp at this; omega
    have hw := hwz (zs.getD j 0) (by rw [List.getD_eq_getElem?_getD, List.getElem?_eq_getElem (by omega)]; simp)
    have hb : 0 ≤ zs.getD j 0 ∧ zs.getD j 0 ≤ 255 := by simpa [Lit.wf, IntKind.min, IntKind.max, IntKind.signed, IntKind.bits] using hw
    rw [hcell j (by omega)]
    rw [List.map_map, List.getElem?_map, List.getElem?_take, if_pos hj, List.getElem?_eq_getElem (by omega)] at hu
    simp only [Option.map_some, Function.comp_apply, Option.some.injEq] at hu
    rw [← hu, List.getD_eq_getElem?_getD, List.getElem?_eq_getElem (by omega)]
    rw [List.getD_eq_getElem?_getD, List.getElem?_eq_getElem (by omega)] at hb
    simp only [Option.getD_some] at hb ⊢
    unfold bv
    rw [UInt8.toNat_ofNat']
    congr 2
    omega

/-- A slice of numbers that came in, by index. -/
theorem open_row {t e : TypeId} {k : IntKind} {r : Reach} {b0 : Nat} {v : Value} {d : DataW H} {ps : List MemPlace} (ht : P.underlying t = some (.slice e)) (he : P.underlying e = some (.int k)) (hce : P.cellsOf e = 1)
    (hv : Value.okWide P w r b0 t v) (h : DataW.Trod enc P w base spare held t v d ps) : ∃ a n c, v = .slice a n c ∧ n ≤ c ∧ ∃ z : Nat → Int, (∀ i, (Lit.int k (z i)).wf = true) ∧ (n = 0 ∨ ∃ b o, a = some ⟨b, o, none⟩ ∧ ∀ i, i < n → w.cell? ⟨b, o + i, none⟩ = some (.int k (z i))) := by
  have wf0 : (Lit.int k 0).wf = true := by cases k <;> decide
  obtain ⟨a, n, c, rfl⟩ := okWide_slice ht hv
  obtain ⟨fuel, hf⟩ := h
  rcases open_ints ht he hce hf with ⟨hcs, _⟩ | ⟨x, l, c', zs, hcs, _, hl, hm, hz, _, hcell, hwz⟩
  · simp [Value.cells] at hcs
    obtain ⟨rfl, rfl, rfl⟩ := hcs
    exact ⟨none, 0, 0, rfl, Nat.le_refl _, fun _ => 0, fun _ => wf0, .inl rfl⟩
  · simp [Value.cells] at hcs
    obtain ⟨rfl, rfl, rfl⟩ := hcs
    have hzl : n ≤ zs.length := by rw [hz]; split <;> omega
    refine ⟨_, n, c, rfl, hl, fun i => zs.getD i 0, fun i => ?_, ?_⟩
    · by_cases hi : i < zs.length
      · exact hwz _ (by show zs.getD i 0 ∈ zs; rw [List.getD_eq_getElem?_getD, List.getElem?_eq_getElem hi]; simp)
      · show (Lit.int k (zs.getD i 0)).wf = true
        rw [List.getD_eq_getElem?_getD, List.getElem?_eq_none (by omega)]; exact wf0
    · by_cases hn : n = 0
      · exact .inl hn
      · obtain ⟨b, o, spot⟩ := x
        have hc := hcell 0 (by omega)
        have hspot : spot = none := by simpa [Addr.add] using World.cell?_spot hc
        subst hspot
        exact .inr ⟨b, o, rfl, fun i hi => by have := hcell i (by omega); rwa [Addr.add_mid] at this⟩
end
end Go.Proofs.YtdlbpbglidhlfaaGreatDoor

namespace Go.Proofs.YtdlbpbglidhlfaaGreatDoor
open Go.ChangeShapes Go.WideShapes Go.ChangeAt Go.RowKit

section
variable {H : Type} {enc : TypeId × Value → H} {w : World} {base : Nat} {spare : Nat → Bool} {held : Bool}

theorem four_ofV {l : List Value} (h : l.length = 4) : ∃ a b c d, l = [a, b, c, d] := by
  match l, h with
  | [a, b, c, d], _ => exact ⟨a, b, c, d, rfl⟩
theorem at_someV {α : Type} {l : List α} {n i : Nat} (h : l.length = n) (hi : i < n) : ∃ y, l[i]? = some y := ⟨l[i], List.getElem?_eq_getElem (by omega)⟩

/-- The values of a row that came in: each of them by what is known of its cells. -/
theorem elems_of {n : Nat} {P : Nat → VD → Prop} (h : ∀ i, i < n → ∃ v : VD, P i v) : ∃ l : List VD, l.length = n ∧ ∀ i (hi : i < l.length), P i (l[i]'hi) := by
  refine ⟨(List.range n).map fun i => if hi : i < n then Classical.choose (h i hi) else .mk 0 0 [] [], by simp, fun i hi => ?_⟩
  have hi' : i < n := by simpa using hi
  simp only [List.getElem_map, List.getElem_range, dif_pos hi']
  exact Classical.choose_spec (h i hi')

/-- A value within what came in: what its cells are. -/
theorem trod_value : ∀ (N fuel : Nat) {cs : List Value} {x : DataW H × List MemPlace}, fuel ≤ N → DataW.trod enc Tryz.prog w base spare held fuel 24 cs = some x →
    ∃ (v : VD) (e0 e1 e2 e3 : Value), cs = [e0, e1, e2, e3] ∧ v.At (fun _ => True) w (.agg #[e0, e1, e2, e3]) := by
  intro N
  induction N with
  | zero =>
    intro fuel cs x hN h
    obtain ⟨xs, m, hm, _⟩ := DataW.trod_struct Tryz.underlying24 h
    omega
  | succ N ih =>
    intro fuel cs x hN h
    obtain ⟨xs, m, hfuel, hx, hl, hlen, hf⟩ := DataW.trod_struct Tryz.underlying24 h
    have hl4 : cs.length = 4 := hl.trans (by kernel_rfl)
    obtain ⟨v0, v1, v2, v3, rfl⟩ := four_ofV hl4
    have c5 : Tryz.prog.cellsOf 5 = 1 := by kernel_rfl
    have c2 : Tryz.prog.cellsOf 2 = 1 := by kernel_rfl
    have c9 : Tryz.prog.cellsOf 9 = 1 := by kernel_rfl
    have c22 : Tryz.prog.cellsOf 22 = 1 := by kernel_rfl
    have c24 : Tryz.prog.cellsOf 24 = 4 := by kernel_rfl
    have hlen' : xs.length = 4 := hlen
    obtain ⟨y0, e0⟩ := at_someV hlen' (i := 0) (by omega)
    obtain ⟨y1, e1⟩ := at_someV hlen' (i := 1) (by omega)
    obtain ⟨y2, e2⟩ := at_someV hlen' (i := 2) (by omega)
    obtain ⟨y3, e3⟩ := at_someV hlen' (i := 3) (by omega)
    have f0 : DataW.trod enc Tryz.prog w base spare held m 5 (([v0, v1, v2, v3].drop 0).take (Tryz.prog.cellsOf 5)) = some y0 := (hf 0 _ rfl).trans e0
    rw [c5] at f0
    replace f0 : DataW.trod enc Tryz.prog w base spare held m 5 [v0] = some y0 := f0
    have f1 : DataW.trod enc Tryz.prog w base spare held m 2 (([v0, v1, v2, v3].drop 1).take (Tryz.prog.cellsOf 2)) = some y1 := (hf 1 _ rfl).trans e1
    rw [c2] at f1
    replace f1 : DataW.trod enc Tryz.prog w base spare held m 2 [v1] = some y1 := f1
    have f2 : DataW.trod enc Tryz.prog w base spare held m 9 (([v0, v1, v2, v3].drop 2).take (Tryz.prog.cellsOf 9)) = some y2 := (hf 2 _ rfl).trans e2
    rw [c9] at f2
    replace f2 : DataW.trod enc Tryz.prog w base spare held m 9 [v2] = some y2 := f2
    have f3 : DataW.trod enc Tryz.prog w base spare held m 22 (([v0, v1, v2, v3].drop 3).take (Tryz.prog.cellsOf 22)) = some y3 := (hf 3 _ rfl).trans e3
    rw [c22] at f3
    replace f3 : DataW.trod enc Tryz.prog w base spare held m 22 [v3] = some y3 := f3
    obtain ⟨k, g0, _, w0⟩ := DataW.trod_int Tryz.underlying5 f0
    obtain ⟨n, g1, _, w1⟩ := DataW.trod_int Tryz.underlying2 f1
    obtain ⟨z, g2, _, hz⟩ := DataW.trod_string Tryz.underlying9 f2
    simp at g0 g1 g2
    subst g0 g1 g2
    have hk : 0 ≤ k ∧ k ≤ 255 := by simpa [Lit.wf, IntKind.min, IntKind.max, IntKind.signed, IntKind.bits] using w0
    have hn : -9223372036854775808 ≤ n ∧ n ≤ 9223372036854775807 := by simpa [Lit.wf, IntKind.min, IntKind.max, IntKind.signed, IntKind.bits] using w1
    have hzz : (⟨z.data.toList.toArray⟩ : ByteArray) = z := by cases z; simp
    have hzl : z.data.toList.length ≤ maxLen := by rw [Array.length_toList]; exact hz
    have hkk : ((k.toNat : Nat) : Int) = k := by omega
    rcases DataW.trod_slice Tryz.underlying22 f3 with ⟨hcs, _⟩ | ⟨a, l, c', elems, rest, m', hm', hcs, _, hb, hlc, hcm, hel, heach, _⟩
    · simp at hcs
      subst hcs
      refine ⟨.mk k.toNat n z.data.toList [], _, _, _, _, rfl, ?_⟩
      rw [VD.at_iff]
      exact ⟨none, 0, by simp only [VD.k, VD.n, VD.s, VD.l, hkk, hzz]; rfl, by show k.toNat < _; omega, hn, hzl, Nat.le_refl _, Nat.zero_le _, fun j hj => absurd hj (Nat.not_lt_zero j)⟩
    · simp at hcs
      subst hcs
      have first : ∀ i, i < l → ∃ (v : VD) (u0 u1 u2 u3 : Value), w.cell? ((a.add (i * 4)).add 0) = some u0 ∧ w.cell? ((a.add (i * 4)).add 1) = some u1 ∧ w.cell? ((a.add (i * 4)).add 2) = some u2 ∧ w.cell? ((a.add (i * 4)).add 3) = some u3 ∧ v.At (fun _ => True) w (.agg #[u0, u1, u2, u3]) := fun i hi => by
        have h1 := heach i hi
        rw [c24, List.getElem?_eq_getElem (show i < elems.length by omega), Option.bind_eq_some_iff] at h1
        obtain ⟨cs, h2, h3⟩ := h1
        unfold World.cells? at h2
        split at h2
        · obtain ⟨v, u0, u1, u2, u3, rfl, hv⟩ := ih m' (by omega) h3
          exact ⟨v, u0, u1, u2, u3, mapM_some_get h2 0 0 (by simp), mapM_some_get h2 1 1 (by simp), mapM_some_get h2 2 2 (by simp), mapM_some_get h2 3 3 (by simp), hv⟩
        · cases h2
      have each : ∀ i, i < l → ∃ v : VD, v.Elem (fun _ => True) w (some a) i := fun i hi => by
        obtain ⟨b, o, spot⟩ := a
        obtain ⟨_, _, _, _, _, g0, _⟩ := first 0 (by omega)
        have hspot : spot = none := by simpa [Addr.add] using World.cell?_spot g0
        subst hspot
        obtain ⟨v, u0, u1, u2, u3, g0, g1, g2, g3, hv⟩ := first i hi
        rw [Addr.add_mid, Addr.add_mid] at g0 g1 g2 g3
        exact ⟨v, b, o, u0, u1, u2, u3, rfl, trivial, g0, g1, g2, g3, hv⟩
      obtain ⟨q, hq, hE⟩ := elems_of each
      refine ⟨.mk k.toNat n z.data.toList q, _, _, _, _, rfl, ?_⟩
      rw [VD.at_iff]
      refine ⟨some a, c', ?_, by show k.toNat < _; omega, hn, hzl, by simp only [VD.l]; omega, hcm, hE⟩
      simp only [VD.k, VD.n, VD.s, VD.l, hkk, hzz, hq]

set_option maxRecDepth 100000 in
/-- A value that came in. -/
theorem open_value {r0 : Reach} {b0 : Nat} {v : Value} {d : DataW H} {ps : List MemPlace} (hv : Value.okWide Tryz.prog w r0 b0 24 v) (h : DataW.Trod enc Tryz.prog w base spare held 24 v d ps) :
    ∃ x : VD, x.At (fun _ => True) w v := by
  have hu : Tryz.prog.underlying 24 = _ := Tryz.underlying24
  simp only [Value.okWide, hu] at hv
  obtain ⟨fuel, hf⟩ := h
  obtain ⟨x, e0, e1, e2, e3, h1, h2⟩ := trod_value fuel fuel (Nat.le_refl _) hf
  obtain ⟨cs, rfl, hrest⟩ := hv
  refine ⟨x, ?_⟩
  have h3 : cs.toList = [e0, e1, e2, e3] := h1
  have h4 : cs = #[e0, e1, e2, e3] := by rw [← Array.toArray_toList (xs := cs), h3]
  rw [h4]
  exact h2
end
end Go.Proofs.YtdlbpbglidhlfaaGreatDoor

namespace Go.Proofs.YtdlbpbglidhlfaaGreatDoor
open Go.ChangeShapes Go.WideShapes Go.ChangeAt Go.RowKit

section
variable {H : Type} {enc : TypeId × Value → H} {w : World} {base : Nat} {spare : Nat → Bool} {held : Bool}

theorem six_ofF {l : List Value} (h : l.length = 6) : ∃ a b c d e f, l = [a, b, c, d, e, f] := by
  match l, h with
  | [a, b, c, d, e, f], _ => exact ⟨a, b, c, d, e, f, rfl⟩
theorem at_someF {α : Type} {l : List α} {n i : Nat} (h : l.length = n) (hi : i < n) : ∃ y, l[i]? = some y := ⟨l[i], List.getElem?_eq_getElem (by omega)⟩
theorem list_ofF {α : Type} {n : Nat} {P : Nat → α → Prop} (h : ∀ i, i < n → ∃ v : α, P i v) : ∃ l : List α, l.length = n ∧ ∀ i (hi : i < l.length), P i (l[i]'hi) := by
  refine ⟨(List.range n).pmap (fun i hi => Classical.choose (h i hi)) (fun i hi => List.mem_range.1 hi), by simp, fun i hi => ?_⟩
  have hi' : i < n := by simpa using hi
  simp only [List.getElem_pmap, List.getElem_range]
  exact Classical.choose_spec (h i hi')

/-- Texts within what came in. -/
theorem trod_strsF {fuel : Nat} {v : Value} {x : DataW H × List MemPlace} (h : DataW.trod enc Tryz.prog w base spare held fuel 60 [v] = some x) :
    ∃ (q : List (List UInt8)) (a : Option Addr) (c : Nat), v = .slice a q.length c ∧ q.length ≤ c ∧ c ≤ maxLen ∧ StrsAt (fun _ => True) w a q := by
  have c9 : Tryz.prog.cellsOf 9 = 1 := by kernel_rfl
  rcases DataW.trod_slice Tryz.underlying60 h with ⟨hcs, _⟩ | ⟨a, l, c', elems, rest, m', hm', hcs, _, hb, hlc, hcm, hel, heach, _⟩
  · simp at hcs
    subst hcs
    exact ⟨[], none, 0, rfl, Nat.le_refl _, Nat.zero_le _, StrsAt.nil _ _ _⟩
  · simp at hcs
    subst hcs
    have first : ∀ i, i < l → ∃ s : List UInt8, w.cell? (a.add i) = some (.string ⟨s.toArray⟩) ∧ s.length ≤ maxLen := fun i hi => by
      have h1 := heach i hi
      rw [c9, List.getElem?_eq_getElem (show i < elems.length by omega), Option.bind_eq_some_iff] at h1
      obtain ⟨cs, h2, h3⟩ := h1
      unfold World.cells? at h2
      split at h2
      · obtain ⟨z, g2, _, hz⟩ := DataW.trod_string Tryz.underlying9 h3
        have h4 := mapM_some_get h2 0 0 (by simp)
        rw [g2] at h4
        have h5 : w.cell? (a.add i) = some (.string z) := by
          have e : (a.add (i * 1)).add 0 = a.add i := by simp [Addr.add]
          rw [← e]
          simpa using h4
        refine ⟨z.data.toList, ?_, by rw [Array.length_toList]; exact hz⟩
        rw [h5]
      · cases h2
    obtain ⟨q, hq, hE⟩ := list_ofF (P := fun i (s : List UInt8) => w.cell? (a.add i) = some (.string ⟨s.toArray⟩) ∧ s.length ≤ maxLen) first
    subst hq
    refine ⟨q, some a, c', rfl, hlc, hcm, fun i hi => ?_⟩
    obtain ⟨b, o, spot⟩ := a
    obtain ⟨gz, _⟩ := hE 0 (by omega)
    have hspot : spot = none := by simpa [Addr.add] using World.cell?_spot gz
    subst hspot
    obtain ⟨g0, h0⟩ := hE i hi
    rw [Addr.add_mid] at g0
    exact ⟨b, o, rfl, trivial, g0, h0⟩

/-- An item within what came in. -/
theorem trod_itemF {fuel : Nat} {cs : List Value} {x : DataW H × List MemPlace} (h : DataW.trod enc Tryz.prog w base spare held fuel 62 cs = some x) :
    ∃ (v : FI) (a : Option Addr) (c : Nat), cs = [.string ⟨v.name.toArray⟩, .int .u8 ((v.k : Nat) : Int), .slice a v.after.length c, .string ⟨v.over.toArray⟩, .int .i64 v.width, .int .i64 v.quota] ∧ v.Fits ∧ v.after.length ≤ c ∧ c ≤ maxLen ∧ StrsAt (fun _ => True) w a v.after := by
  obtain ⟨xs, m, hfuel, hx, hl, hlen, hf⟩ := DataW.trod_struct Tryz.underlying62 h
  have hl6 : cs.length = 6 := hl.trans (by kernel_rfl)
  obtain ⟨v0, v1, v2, v3, v4, v5, rfl⟩ := six_ofF hl6
  have cu : Tryz.prog.cellsOf 5 = 1 := by kernel_rfl
  have ci : Tryz.prog.cellsOf 3 = 1 := by kernel_rfl
  have cs9 : Tryz.prog.cellsOf 9 = 1 := by kernel_rfl
  have cl : Tryz.prog.cellsOf 60 = 1 := by kernel_rfl
  have hlen' : xs.length = 6 := hlen
  obtain ⟨y0, e0⟩ := at_someF hlen' (i := 0) (by omega)
  obtain ⟨y1, e1⟩ := at_someF hlen' (i := 1) (by omega)
  obtain ⟨y2, e2⟩ := at_someF hlen' (i := 2) (by omega)
  obtain ⟨y3, e3⟩ := at_someF hlen' (i := 3) (by omega)
  obtain ⟨y4, e4⟩ := at_someF hlen' (i := 4) (by omega)
  obtain ⟨y5, e5⟩ := at_someF hlen' (i := 5) (by omega)
  have f0 : DataW.trod enc Tryz.prog w base spare held m 9 (([v0, v1, v2, v3, v4, v5].drop 0).take (Tryz.prog.cellsOf 9)) = some y0 := (hf 0 _ rfl).trans e0
  rw [cs9] at f0
  replace f0 : DataW.trod enc Tryz.prog w base spare held m 9 [v0] = some y0 := f0
  have f1 : DataW.trod enc Tryz.prog w base spare held m 5 (([v0, v1, v2, v3, v4, v5].drop 1).take (Tryz.prog.cellsOf 5)) = some y1 := (hf 1 _ rfl).trans e1
  rw [cu] at f1
  replace f1 : DataW.trod enc Tryz.prog w base spare held m 5 [v1] = some y1 := f1
  have f2 : DataW.trod enc Tryz.prog w base spare held m 60 (([v0, v1, v2, v3, v4, v5].drop 2).take (Tryz.prog.cellsOf 60)) = some y2 := (hf 2 _ rfl).trans e2
  rw [cl] at f2
  replace f2 : DataW.trod enc Tryz.prog w base spare held m 60 [v2] = some y2 := f2
  have f3 : DataW.trod enc Tryz.prog w base spare held m 9 (([v0, v1, v2, v3, v4, v5].drop 3).take (Tryz.prog.cellsOf 9)) = some y3 := (hf 3 _ rfl).trans e3
  rw [cs9] at f3
  replace f3 : DataW.trod enc Tryz.prog w base spare held m 9 [v3] = some y3 := f3
  have f4 : DataW.trod enc Tryz.prog w base spare held m 3 (([v0, v1, v2, v3, v4, v5].drop 4).take (Tryz.prog.cellsOf 3)) = some y4 := (hf 4 _ rfl).trans e4
  rw [ci] at f4
  replace f4 : DataW.trod enc Tryz.prog w base spare held m 3 [v4] = some y4 := f4
  have f5 : DataW.trod enc Tryz.prog w base spare held m 3 (([v0, v1, v2, v3, v4, v5].drop 5).take (Tryz.prog.cellsOf 3)) = some y5 := (hf 5 _ rfl).trans e5
  rw [ci] at f5
  replace f5 : DataW.trod enc Tryz.prog w base spare held m 3 [v5] = some y5 := f5
  obtain ⟨z0, g0, _, hz0⟩ := DataW.trod_string Tryz.underlying9 f0
  obtain ⟨k, g1, _, w1⟩ := DataW.trod_int Tryz.underlying5 f1
  obtain ⟨q, a, c, g2, hqc, hcm, hS⟩ := trod_strsF f2
  obtain ⟨z3, g3, _, hz3⟩ := DataW.trod_string Tryz.underlying9 f3
  obtain ⟨wd, g4, _, w4⟩ := DataW.trod_int Tryz.underlying3 f4
  obtain ⟨qt, g5, _, w5⟩ := DataW.trod_int Tryz.underlying3 f5
  simp at g0 g1 g3 g4 g5
  subst g0 g1 g2 g3 g4 g5
  have hk : 0 ≤ k ∧ k ≤ 255 := by simpa [Lit.wf, IntKind.min, IntKind.max, IntKind.signed, IntKind.bits] using w1
  have h4 : -9223372036854775808 ≤ wd ∧ wd ≤ 9223372036854775807 := by simpa [Lit.wf, IntKind.min, IntKind.max, IntKind.signed, IntKind.bits] using w4
  have h5 : -9223372036854775808 ≤ qt ∧ qt ≤ 9223372036854775807 := by simpa [Lit.wf, IntKind.min, IntKind.max, IntKind.signed, IntKind.bits] using w5
  have hkk : ((k.toNat : Nat) : Int) = k := by omega
  have hzz : ∀ z : ByteArray, (⟨z.data.toList.toArray⟩ : ByteArray) = z := fun z => by cases z; simp
  refine ⟨⟨z0.data.toList, k.toNat, q, z3.data.toList, wd, qt⟩, a, c, ?_, ⟨by show z0.data.toList.length ≤ _; rw [Array.length_toList]; exact hz0, by show k.toNat < _; omega, by show z3.data.toList.length ≤ _; rw [Array.length_toList]; exact hz3, h4, h5⟩, hqc, hcm, hS⟩
  simp only [hkk, hzz]

set_option maxRecDepth 100000 in
/-- An item that came in. -/
theorem open_itemF {r0 : Reach} {b0 : Nat} {v : Value} {d : DataW H} {ps : List MemPlace} (hv : Value.okWide Tryz.prog w r0 b0 62 v) (h : DataW.Trod enc Tryz.prog w base spare held 62 v d ps) :
    ∃ x : FI, x.At (fun _ => True) w v := by
  have hu : Tryz.prog.underlying 62 = _ := Tryz.underlying62
  simp only [Value.okWide, hu] at hv
  obtain ⟨fuel, hf⟩ := h
  obtain ⟨cs, rfl, hrest⟩ := hv
  obtain ⟨x, a, c, h1, h2, h3, h4, h5⟩ := trod_itemF hf
  refine ⟨x, a, c, ?_, h2, h3, h4, h5⟩
  have h6 : cs.toList = _ := h1
  rw [← Array.toArray_toList (xs := cs), h6]
  rfl

set_option maxRecDepth 100000 in
/-- A fragment that came in: nil has no room. -/
theorem open_itemsF {r0 : Reach} {b0 : Nat} {v : Value} {d : DataW H} {ps : List MemPlace} (hv : Value.okWide Tryz.prog w r0 b0 25 v) (h : DataW.Trod enc Tryz.prog w base spare held 25 v d ps) :
    ∃ (l : List FI) (a : Option Addr) (n c : Nat), v = .slice a n c ∧ n = l.length ∧ FragAt (fun _ => True) w l (.slice a n c) ∧ (a = none → c = 0) := by
  obtain ⟨a0, n0, c0, rfl⟩ := okWide_slice Tryz.underlying25 hv
  have c6 : Tryz.prog.cellsOf 62 = 6 := by kernel_rfl
  obtain ⟨fuel, hf⟩ := h
  rcases DataW.trod_slice Tryz.underlying25 hf with ⟨hcs, _⟩ | ⟨a, l, c', elems, rest, m', hm', hcs, _, hb, hlc, hcm, hel, heach, _⟩
  · simp [Value.cells] at hcs
    obtain ⟨rfl, rfl, rfl⟩ := hcs
    exact ⟨[], none, 0, 0, rfl, rfl, FragAt.nil _ _, fun _ => rfl⟩
  · simp [Value.cells] at hcs
    obtain ⟨rfl, rfl, rfl⟩ := hcs
    have first : ∀ i, i < n0 → ∃ (x : FI) (pa : Option Addr) (pc : Nat), w.cell? ((a.add (i * 6)).add 0) = some (.string ⟨x.name.toArray⟩) ∧ w.cell? ((a.add (i * 6)).add 1) = some (.int .u8 ((x.k : Nat) : Int)) ∧ w.cell? ((a.add (i * 6)).add 2) = some (.slice pa x.after.length pc) ∧ w.cell? ((a.add (i * 6)).add 3) = some (.string ⟨x.over.toArray⟩) ∧ w.cell? ((a.add (i * 6)).add 4) = some (.int .i64 x.width) ∧ w.cell? ((a.add (i * 6)).add 5) = some (.int .i64 x.quota) ∧ x.Fits ∧ x.after.length ≤ pc ∧ pc ≤ maxLen ∧ StrsAt (fun _ => True) w pa x.after := fun i hi => by
      have h1 := heach i hi
      rw [c6, List.getElem?_eq_getElem (show i < elems.length by omega), Option.bind_eq_some_iff] at h1
      obtain ⟨cs, h2, h3⟩ := h1
      unfold World.cells? at h2
      split at h2
      · obtain ⟨x, pa, pc, rfl, hfit, hpc, hpm, hS⟩ := trod_itemF h3
        have g0 := mapM_some_get h2 0 0 (by simp)
        have g1 := mapM_some_get h2 1 1 (by simp)
        have g2 := mapM_some_get h2 2 2 (by simp)
        have g3 := mapM_some_get h2 3 3 (by simp)
        have g4 := mapM_some_get h2 4 4 (by simp)
        have g5 := mapM_some_get h2 5 5 (by simp)
        exact ⟨x, pa, pc, g0, g1, g2, g3, g4, g5, hfit, hpc, hpm, hS⟩
      · cases h2
    have each : ∀ i, i < n0 → ∃ x : FI, x.Elem (fun _ => True) w (some a) i := fun i hi => by
      obtain ⟨b, o, spot⟩ := a
      obtain ⟨_, _, _, gz, _⟩ := first 0 (by omega)
      have hspot : spot = none := by simpa [Addr.add] using World.cell?_spot gz
      subst hspot
      obtain ⟨x, pa, pc, g0, g1, g2, g3, g4, g5, hfit, hpc, hpm, hS⟩ := first i hi
      rw [Addr.add_mid, Addr.add_mid] at g0 g1 g2 g3 g4 g5
      exact ⟨x, b, o, pa, pc, rfl, trivial, ⟨g0, g1, g2, g3, g4, g5⟩, hfit, hpc, hpm, hS⟩
    obtain ⟨q, hq, hE⟩ := list_ofF each
    exact ⟨q, some a, n0, c0, rfl, hq.symm, ⟨some a, c0, by rw [hq], by omega, hcm, fun i hi => hE i hi⟩, fun h => by cases h⟩
end
end Go.Proofs.YtdlbpbglidhlfaaGreatDoor

namespace Go.Proofs.YtdlbpbglidhlfaaGreatDoor
open Go.ChangeShapes Go.WideShapes Go.ChangeAt Go.RowKit

section
variable {H : Type} {enc : TypeId × Value → H} {w : World} {base : Nat} {spare : Nat → Bool} {held : Bool}
set_option maxRecDepth 100000 in
/-- A fragment within what came in. -/
theorem trod_itemsO {fuel : Nat} {v : Value} {x : DataW H × List MemPlace} (hf : DataW.trod enc Tryz.prog w base spare held fuel 25 [v] = some x) :
    ∃ (l : List FI) (a : Option Addr) (n c : Nat), v = .slice a n c ∧ FragAt (fun _ => True) w l (.slice a n c) := by
  have c6 : Tryz.prog.cellsOf 62 = 6 := by kernel_rfl
  rcases DataW.trod_slice Tryz.underlying25 hf with ⟨hcs, _⟩ | ⟨a, l, c', elems, rest, m', hm', hcs, _, hb, hlc, hcm, hel, heach, _⟩
  · simp at hcs
    subst hcs
    exact ⟨[], none, 0, 0, rfl, FragAt.nil _ _⟩
  · simp at hcs
    subst hcs
    have first : ∀ i, i < l → ∃ (x : FI) (pa : Option Addr) (pc : Nat), w.cell? ((a.add (i * 6)).add 0) = some (.string ⟨x.name.toArray⟩) ∧ w.cell? ((a.add (i * 6)).add 1) = some (.int .u8 ((x.k : Nat) : Int)) ∧ w.cell? ((a.add (i * 6)).add 2) = some (.slice pa x.after.length pc) ∧ w.cell? ((a.add (i * 6)).add 3) = some (.string ⟨x.over.toArray⟩) ∧ w.cell? ((a.add (i * 6)).add 4) = some (.int .i64 x.width) ∧ w.cell? ((a.add (i * 6)).add 5) = some (.int .i64 x.quota) ∧ x.Fits ∧ x.after.length ≤ pc ∧ pc ≤ maxLen ∧ StrsAt (fun _ => True) w pa x.after := fun i hi => by
      have h1 := heach i hi
      rw [c6, List.getElem?_eq_getElem (show i < elems.length by omega), Option.bind_eq_some_iff] at h1
      obtain ⟨cs, h2, h3⟩ := h1
      unfold World.cells? at h2
      split at h2
      · obtain ⟨x, pa, pc, rfl, hfit, hpc, hpm, hS⟩ := trod_itemF h3
        have g0 := mapM_some_get h2 0 0 (by simp)
        have g1 := mapM_some_get h2 1 1 (by simp)
        have g2 := mapM_some_get h2 2 2 (by simp)
        have g3 := mapM_some_get h2 3 3 (by simp)
        have g4 := mapM_some_get h2 4 4 (by simp)
        have g5 := mapM_some_get h2 5 5 (by simp)
        exact ⟨x, pa, pc, g0, g1, g2, g3, g4, g5, hfit, hpc, hpm, hS⟩
      · cases h2
    have each : ∀ i, i < l → ∃ x : FI, x.Elem (fun _ => True) w (some a) i := fun i hi => by
      obtain ⟨b, o, spot⟩ := a
      obtain ⟨_, _, _, gz, _⟩ := first 0 (by omega)
      have hspot : spot = none := by simpa [Addr.add] using World.cell?_spot gz
      subst hspot
      obtain ⟨x, pa, pc, g0, g1, g2, g3, g4, g5, hfit, hpc, hpm, hS⟩ := first i hi
      rw [Addr.add_mid, Addr.add_mid] at g0 g1 g2 g3 g4 g5
      exact ⟨x, b, o, pa, pc, rfl, trivial, ⟨g0, g1, g2, g3, g4, g5⟩, hfit, hpc, hpm, hS⟩
    obtain ⟨q, hq, hE⟩ := list_ofF each
    exact ⟨q, some a, l, c', rfl, ⟨some a, c', by rw [hq], by omega, hcm, fun i hi => hE i hi⟩⟩

theorem nine_of {l : List Value} (h : l.length = 9) : ∃ a b c d e f g h i, l = [a, b, c, d, e, f, g, h, i] := by
  match l, h with
  | [a, b, c, d, e, f, g, h, i], _ => exact ⟨a, b, c, d, e, f, g, h, i, rfl⟩
set_option maxRecDepth 100000 in
/-- An operation that came in. -/
theorem open_op {r0 : Reach} {b0 : Nat} {v : Value} {d : DataW H} {ps : List MemPlace} (hv : Value.okWide Tryz.prog w r0 b0 27 v) (h : DataW.Trod enc Tryz.prog w base spare held 27 v d ps) :
    ∃ x : OD, x.At (fun _ => True) w v := by
  have hu : Tryz.prog.underlying 27 = _ := Tryz.underlying27
  simp only [Value.okWide, hu] at hv
  obtain ⟨fuel, hfu⟩ := h
  obtain ⟨cs0, rfl, hrest⟩ := hv
  obtain ⟨xs, m, hfuel, hx, hl, hlen, hf⟩ := DataW.trod_struct Tryz.underlying27 hfu
  have hl9 : (Value.agg cs0).cells.toList.length = 9 := hl.trans (by kernel_rfl)
  obtain ⟨v0, v1, v2, v3, v4, v5, v6, v7, v8, hcs⟩ := nine_of hl9
  rw [hcs] at hf
  have c5 : Tryz.prog.cellsOf 5 = 1 := by kernel_rfl
  have c2 : Tryz.prog.cellsOf 2 = 1 := by kernel_rfl
  have c3 : Tryz.prog.cellsOf 3 = 1 := by kernel_rfl
  have c9 : Tryz.prog.cellsOf 9 = 1 := by kernel_rfl
  have c22 : Tryz.prog.cellsOf 25 = 1 := by kernel_rfl
  have c24 : Tryz.prog.cellsOf 24 = 4 := by kernel_rfl
  have hlen' : xs.length = 6 := hlen
  obtain ⟨y0, e0⟩ := at_someF hlen' (i := 0) (by omega)
  obtain ⟨y1, e1⟩ := at_someF hlen' (i := 1) (by omega)
  obtain ⟨y2, e2⟩ := at_someF hlen' (i := 2) (by omega)
  obtain ⟨y3, e3⟩ := at_someF hlen' (i := 3) (by omega)
  obtain ⟨y4, e4⟩ := at_someF hlen' (i := 4) (by omega)
  obtain ⟨y5, e5⟩ := at_someF hlen' (i := 5) (by omega)
  have f0 : DataW.trod enc Tryz.prog w base spare held m 5 (([v0, v1, v2, v3, v4, v5, v6, v7, v8].drop 0).take (Tryz.prog.cellsOf 5)) = some y0 := (hf 0 _ rfl).trans e0
  rw [c5] at f0
  replace f0 : DataW.trod enc Tryz.prog w base spare held m 5 [v0] = some y0 := f0
  have f1 : DataW.trod enc Tryz.prog w base spare held m 9 (([v0, v1, v2, v3, v4, v5, v6, v7, v8].drop 1).take (Tryz.prog.cellsOf 9)) = some y1 := (hf 1 _ rfl).trans e1
  rw [c9] at f1
  replace f1 : DataW.trod enc Tryz.prog w base spare held m 9 [v1] = some y1 := f1
  have f2 : DataW.trod enc Tryz.prog w base spare held m 2 (([v0, v1, v2, v3, v4, v5, v6, v7, v8].drop 2).take (Tryz.prog.cellsOf 2)) = some y2 := (hf 2 _ rfl).trans e2
  rw [c2] at f2
  replace f2 : DataW.trod enc Tryz.prog w base spare held m 2 [v2] = some y2 := f2
  have f3 : DataW.trod enc Tryz.prog w base spare held m 24 (([v0, v1, v2, v3, v4, v5, v6, v7, v8].drop 3).take (Tryz.prog.cellsOf 24)) = some y3 := (hf 3 _ rfl).trans e3
  rw [c24] at f3
  replace f3 : DataW.trod enc Tryz.prog w base spare held m 24 [v3, v4, v5, v6] = some y3 := f3
  have f4 : DataW.trod enc Tryz.prog w base spare held m 25 (([v0, v1, v2, v3, v4, v5, v6, v7, v8].drop 7).take (Tryz.prog.cellsOf 25)) = some y4 := (hf 4 _ rfl).trans e4
  rw [c22] at f4
  replace f4 : DataW.trod enc Tryz.prog w base spare held m 25 [v7] = some y4 := f4
  have f5 : DataW.trod enc Tryz.prog w base spare held m 3 (([v0, v1, v2, v3, v4, v5, v6, v7, v8].drop 8).take (Tryz.prog.cellsOf 3)) = some y5 := (hf 5 _ rfl).trans e5
  rw [c3] at f5
  replace f5 : DataW.trod enc Tryz.prog w base spare held m 3 [v8] = some y5 := f5
  obtain ⟨L, g0, _, w0⟩ := DataW.trod_int Tryz.underlying5 f0
  obtain ⟨z, g1, _, hz⟩ := DataW.trod_string Tryz.underlying9 f1
  obtain ⟨t, g2, _, w2⟩ := DataW.trod_int Tryz.underlying2 f2
  obtain ⟨vv, u0, u1, u2, u3, g3, hvv⟩ := trod_value m m (Nat.le_refl _) f3
  obtain ⟨l, fa, fn, fc, g4, hF⟩ := trod_itemsO f4
  obtain ⟨q, g5, _, w5⟩ := DataW.trod_int Tryz.underlying3 f5
  simp at g0 g1 g2 g3 g5
  obtain ⟨rfl, rfl, rfl, rfl⟩ := g3
  subst g0 g1 g2 g4 g5
  have hL : 0 ≤ L ∧ L ≤ 255 := by simpa [Lit.wf, IntKind.min, IntKind.max, IntKind.signed, IntKind.bits] using w0
  have ht : -9223372036854775808 ≤ t ∧ t ≤ 9223372036854775807 := by simpa [Lit.wf, IntKind.min, IntKind.max, IntKind.signed, IntKind.bits] using w2
  have hq : -9223372036854775808 ≤ q ∧ q ≤ 9223372036854775807 := by simpa [Lit.wf, IntKind.min, IntKind.max, IntKind.signed, IntKind.bits] using w5
  have hLL : ((L.toNat : Nat) : Int) = L := by omega
  have hzz : (⟨z.data.toList.toArray⟩ : ByteArray) = z := by cases z; simp
  obtain ⟨K, vm, vc, N, vz, va, hform⟩ := hvv.form
  simp only [Value.agg.injEq] at hform
  replace hform := congrArg Array.toList hform
  simp only [List.cons.injEq, and_true] at hform
  obtain ⟨rfl, rfl, rfl, rfl⟩ := hform
  refine ⟨⟨L.toNat, z.data.toList, t, vv, l, q⟩, ?_⟩
  have h6 : cs0.toList = [.int .u8 L, .string z, .int .i64 t, .int .u8 ((K : Nat) : Int), .int .i64 N, .string vz, .slice va vm vc, .slice fa fn fc, .int .i64 q] := hcs
  rw [← Array.toArray_toList (xs := cs0), h6]
  have := OD.Parts.at (B := fun _ => True) (W := w) (o := ⟨L.toNat, z.data.toList, t, vv, l, q⟩) (L := L.toNat) (s := z) (t := t) (K := K) (N := N) (z := vz) (a := va) (m := vm) (c := vc) (fa := fa) (fn := fn) (fc := fc) (q := q) ⟨rfl, hzz.symm, rfl, rfl, ⟨by show L.toNat < 256; omega, by show z.data.toList.length ≤ _; rw [Array.length_toList]; exact hz, ht, hq⟩, hvv, hF⟩
  unfold OD.form9 at this
  rw [hLL] at this
  exact this
end
end Go.Proofs.YtdlbpbglidhlfaaGreatDoor

namespace Go.Proofs.YtdlbpbglidhlfaaGreatDoor
open Go.ChangeShapes Go.WideShapes Go.ChangeAt Go.RowKit

/-- The listed variable and what it holds. -/
def laid3 : List (String × DataW Unit) := [("foreman/op.ofKind", Rows.laid_foreman_op_ofKind)]
theorem gOf : Tryz.prog.globalNamed "foreman/op.ofKind" = some 0 := by kernel_rfl
theorem tOf : (Tryz.prog.globals[0]?).map (·.type) = some 69 := by kernel_rfl
theorem tab_of_laid {W : World} (h : laidMetH Tryz.prog laid3 W) : OTab W := by
  rw [MakeChecks.laidMetH_plain _ _ _ (by kernel_rfl)] at h
  have hl : laid3 = [("foreman/op.ofKind", Lib.tabData .u8 [0, 24, 1, 15, 3, 1])] := by kernel_rfl
  rw [hl] at h
  have ht := Lib.tabIs_of_head (g := 0) (t := 69) (e := 46) (n := 6) gOf tOf Tryz.underlying69 Tryz.underlying46 (by kernel_rfl) (by kernel_rfl) h
  intro i hi
  have hc := ht.cell gOf i hi
  rw [hc]
  match i, hi with
  | 0, _ => rfl
  | 1, _ => rfl
  | 2, _ => rfl
  | 3, _ => rfl
  | 4, _ => rfl
  | 5, _ => rfl
theorem door_met (os : Os) (args : Array Value) : laidMetH Tryz.prog laid3 ((World.doorLaid Tryz.prog 400 os).forCall (fun _ _ => 0) ⟨#[], args, []⟩).memory :=
  laidMetH_of_parts3 (fuel := 8) (laidMet_of_run' 8 (by kernel_rfl) (by kernel_rfl)) (by kernel_rfl) (by kernel_rfl)
end Go.Proofs.YtdlbpbglidhlfaaGreatDoor
