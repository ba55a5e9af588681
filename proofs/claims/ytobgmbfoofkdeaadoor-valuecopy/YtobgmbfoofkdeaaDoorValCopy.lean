/- ValueCopy of foremanlaw08: its walk. No statement of the seat is proved here. -/
import Derived.Test.YtobgmbfoofkdeaaDoorBase11
import Derived.Test.YtobgmbfoofkdeaaDoorBase10
import Derived.Test.YtobgmbfoofkdeaaDoorBase09
namespace Go.Proofs.YtobgmbfoofkdeaaDoor
open Go.RowKit

/-- A struct with one number's cell stored anew, somewhere. -/
theorem poke_struct {B : Nat → Prop} {W : World} {g : Nat} {v : VD} {q : Addr} {x y : Int} (hp : W.cell? q = some (.int .i64 x)) (hy : InR y) (hg : B g) (hv : PV B W g 0 v) : ∃ v' : VD, PV B (W.setCell q (.int .i64 y)) g 0 v' ∧ v'.parts = v.parts ∧ v'.deep = v.deep := by
  obtain ⟨e0, e1, e2, e3, c0, c1, c2, c3, hA⟩ := hv
  have h0 : (VD.mk 2 0 [] [v]).At B W (.agg #[.int .u8 ((2 : Nat) : Int), .int .i64 0, .string ⟨#[]⟩, .slice (some ⟨g, 0, none⟩) 1 1]) := by
    rw [VD.at_iff]
    refine ⟨_, 1, rfl, by simp [VD.k], by show InR 0; unfold InR; omega, Nat.zero_le _, Nat.le_refl _, by unfold maxLen; omega, fun i hi => ?_⟩
    obtain rfl : i = 0 := by simp [VD.l] at hi; omega
    exact ⟨g, 0, e0, e1, e2, e3, rfl, hg, c0, c1, c2, c3, hA⟩
  obtain ⟨X, hX, _, _, _, hpar, hdp⟩ := h0.poke hp hy
  rw [VD.at_iff] at hX
  obtain ⟨a, c, hu, _, _, _, _, _, hE⟩ := hX
  simp only [Value.agg.injEq] at hu
  have hu := congrArg Array.toList hu
  simp only [List.cons.injEq, Value.slice.injEq, and_true] at hu
  obtain ⟨_, _, _, ha, hl, _⟩ := hu
  have hl0 : 0 < X.l.length := by omega
  obtain ⟨b, o, f0, f1, f2, f3, hab, _, d0, d1, d2, d3, hx⟩ := hE 0 hl0
  rw [← ha] at hab
  simp only [Option.some.injEq, Addr.mk.injEq, and_true] at hab
  obtain ⟨rfl, rfl⟩ := hab
  obtain ⟨y', hyl⟩ := List.length_eq_one_iff.1 hl.symm
  have hye : X.l[0]'hl0 = y' := by have := List.getElem_of_eq hyl hl0; simpa using this
  rw [hye] at hx
  refine ⟨y', ⟨f0, f1, f2, f3, d0, d1, d2, d3, hx⟩, ?_, ?_⟩
  · have h1 := X.parts_mk
    rw [hyl] at h1
    have h2 := (VD.mk 2 0 [] [v]).parts_mk
    simp only [VD.partsL, VD.l] at h1 h2
    omega
  · have h1 := X.deep_mk
    rw [hyl] at h1
    have h2 := (VD.mk 2 0 [] [v]).deep_mk
    have h3 : ∀ n : Nat, Nat.max n 0 = n := fun n => Nat.max_eq_left (Nat.zero_le n)
    simp only [VD.deepL, VD.l, h3] at h1 h2
    omega
theorem PV.explicit {B : Nat → Prop} {W : World} {g : Nat} {v : VD} (h : PV B W g 0 v) : ∃ (K m c : Nat) (N : Int) (z : ByteArray) (a : Option Addr), W.cell? ⟨g, 0, none⟩ = some (.int .u8 ((K : Nat) : Int)) ∧ W.cell? ⟨g, 1, none⟩ = some (.int .i64 N) ∧ W.cell? ⟨g, 2, none⟩ = some (.string z) ∧ W.cell? ⟨g, 3, none⟩ = some (.slice a m c) ∧ v.At B W (.agg #[.int .u8 ((K : Nat) : Int), .int .i64 N, .string z, .slice a m c]) := by
  obtain ⟨e0, e1, e2, e3, c0, c1, c2, c3, hA⟩ := h
  obtain ⟨K, m, c, N, z, a, hu⟩ := hA.form
  simp only [Value.agg.injEq] at hu
  have hu := congrArg Array.toList hu
  simp only [List.cons.injEq, and_true] at hu
  obtain ⟨rfl, rfl, rfl, rfl⟩ := hu
  exact ⟨K, m, c, N, z, a, c0, c1, c2, c3, hA⟩

set_option maxRecDepth 100000 in
set_option maxHeartbeats 2000000 in
theorem copyLaw_any (v : VD) (u : Value) (t : Nat) (ht : t < 65536) (w : World) (hA : v.At (fun _ => True) w u) (hT : Tab w) : Calls Tryd.prog 6 #[u, .int .u16 ((t : Nat) : Int)] w fun e w' => e = .returned (.bool true) ∧ Below w.heap.size w w' := by
  obtain ⟨K, m, c, N, z, a, rfl⟩ := hA.form
  obtain ⟨W1, hW1⟩ : ∃ W1, W1 = w.alloc (.cells #[.int .u8 ((K : Nat) : Int), .int .i64 N, .string z, .slice a m c] 24) := ⟨_, rfl⟩
  have hb1 : Below w.heap.size w W1 := by rw [hW1]; exact (Below.refl _ w).alloc (Nat.le_refl _) _
  have hr1 : W1.heap[w.heap.size]? = some (.cells #[.int .u8 ((K : Nat) : Int), .int .i64 N, .string z, .slice a m c] 24 (0, 0)) := by rw [hW1]; exact heap_alloc_new w _
  obtain ⟨⟨a0, a1, a2, a3⟩, -⟩ := cells4 hr1
  have HA := hide hA
  have HTB := hide hT
  have HW1 := hide hW1
  have HB1 := hide hb1
  have HR1 := hide hr1
  clear hA hT hW1 hb1 hr1
  go_enter Tryd.func6, Tryd.ntmps6
  go_upto_region 1 with fail
  rw [← unhide HW1]
  clear HW1
  go_wp2_with fail
  refine (vFewTop_any v _ _ W1 ((unhide HA).later (unhide HB1))).mono ?_
  rintro e W2 ⟨⟨lt, rfl, hlt⟩, hb2⟩
  have HB2 := hide ((unhide HB1).trans (hb2.mono (unhide HB1).size))
  have hr2 := (hb2.block _ (lt_rowV (unhide HR1))).trans (unhide HR1)
  have HLT := hide hlt
  have HR2 := hide hr2
  clear hlt hb2 a0 a1 a2 a3 HR1 HB1
  obtain ⟨⟨a0, a1, a2, a3⟩, -⟩ := cells4 hr2
  clear hr2
  cases lt with
  | false =>
    go_wp2_with fail
    refine (awake_any W2 ((unhide HTB).later (unhide HB2))).mono ?_
    rintro e W3 ⟨rfl, hb3⟩
    have HB3 := hide ((unhide HB2).trans (hb3.mono (unhide HB2).size))
    clear hb3 a0 a1 a2 a3
    go_wp2_with fail
    go_ret
    exact ⟨rfl, unhide HB3⟩
  | true =>
    obtain ⟨hdeep, hparts⟩ := unhide HLT rfl
    have HDP : Hid (v.deep ≤ 1000 ∧ v.parts ≤ 1000000) := ⟨by omega, by omega⟩
    have HPA := hide hparts
    clear HLT hdeep hparts
    go_wp2_with fail
    refine (copy_any v _ _ W2 ((unhide HA).later (unhide HB2)) (unhide HDP).2 (unhide HDP).1).mono ?_
    rintro e W3 ⟨cK, cm, cc, cN, cz, ca, rfl, hc, hb3⟩
    obtain ⟨W4, hW4⟩ : ∃ W4, W4 = W3.alloc (.cells #[.int .u8 ((cK : Nat) : Int), .int .i64 cN, .string cz, .slice ca cm cc] 24) := ⟨_, rfl⟩
    have hb4 : Below W3.heap.size W3 W4 := by rw [hW4]; exact (Below.refl _ _).alloc (Nat.le_refl _) _
    have hg5 : W4.heap[W3.heap.size]? = some (.cells #[.int .u8 ((cK : Nat) : Int), .int .i64 cN, .string cz, .slice ca cm cc] 24 (0, 0)) := by rw [hW4]; exact heap_alloc_new _ _
    have hb24 : Below W2.heap.size W2 W4 := hb3.trans (hb4.mono hb3.size)
    have HB4 : Hid (Below w.heap.size w W4) := (unhide HB2).trans (hb24.mono (unhide HB2).size)
    have hr4 := (hb24.block _ (lt_rowV (unhide HR2))).trans (unhide HR2)
    have HS23 := hide hb3.size
    have HWS2 : Hid (w.heap.size < W2.heap.size) := lt_rowV (unhide HR2)
    have HC4 : Hid (v.At (fun k => k < W3.heap.size ∧ W2.heap.size ≤ k ∧ NFz W4 k) W4 (.agg #[.int .u8 ((cK : Nat) : Int), .int .i64 cN, .string cz, .slice ca cm cc])) := hc.kept (fun k _ hk => hb4.block k hk) (fun k hk hlt => ⟨hlt, hk.1, hk.2.keep (hb4.block k hlt)⟩)
    have HG5 := hide hg5
    have HR4 := hide hr4
    have HW4 := hide hW4
    obtain ⟨⟨i0, i1, i2, i3⟩, -⟩ := cells4 hg5
    clear hc hb3 hW4 hb4 hg5 hb24 hr4 a0 a1 a2 a3 HR2 HB2
    go_upto_region 4 with fail
    rw [← unhide HW4]
    clear HW4
    go_wp2_with fail
    refine (copy_any v _ _ W4 (unhide HC4) (unhide HDP).2 (unhide HDP).1).mono ?_
    rintro e W5 ⟨dK, dm, dc, dN, dz, da, rfl, hd, hb5⟩
    obtain ⟨W6, hW6⟩ : ∃ W6, W6 = W5.alloc (.cells #[.int .u8 ((dK : Nat) : Int), .int .i64 dN, .string dz, .slice da dm dc] 24) := ⟨_, rfl⟩
    have hb6 : Below W5.heap.size W5 W6 := by rw [hW6]; exact (Below.refl _ _).alloc (Nat.le_refl _) _
    have hg6 : W6.heap[W5.heap.size]? = some (.cells #[.int .u8 ((dK : Nat) : Int), .int .i64 dN, .string dz, .slice da dm dc] 24 (0, 0)) := by rw [hW6]; exact heap_alloc_new _ _
    have hb46 : Below W4.heap.size W4 W6 := hb5.trans (hb6.mono hb5.size)
    have HB6 : Hid (Below w.heap.size w W6) := (unhide HB4).trans (hb46.mono (unhide HB4).size)
    have hr6 := (hb46.block _ (lt_rowV (unhide HR4))).trans (unhide HR4)
    have hg56 := (hb46.block _ (lt_rowV (unhide HG5))).trans (unhide HG5)
    have HS45 : Hid (W3.heap.size < W4.heap.size ∧ W4.heap.size ≤ W5.heap.size) := ⟨lt_rowV (unhide HG5), hb5.size⟩
    have HC6 : Hid (v.At (fun k => k < W3.heap.size ∧ W2.heap.size ≤ k ∧ NFz W6 k) W6 (.agg #[.int .u8 ((cK : Nat) : Int), .int .i64 cN, .string cz, .slice ca cm cc])) := (unhide HC4).kept (fun k _ hk => hb46.block k hk) (fun k hk hlt => ⟨hk.1, hk.2.1, hk.2.2.keep (hb46.block k hlt)⟩)
    have HD6 : Hid (v.At (fun k => k < W5.heap.size ∧ W4.heap.size ≤ k) W6 (.agg #[.int .u8 ((dK : Nat) : Int), .int .i64 dN, .string dz, .slice da dm dc])) := hd.kept (fun k _ hk => hb6.block k hk) (fun k hk hlt => ⟨hlt, hk.1⟩)
    have HW6 := hide hW6
    have HR6 := hide hr6
    have HG56 := hide hg56
    have HG6 := hide hg6
    have l1 := Later.cell (cells4 hr6).1.1
    have l2 := Later.cell (cells4 hr6).1.2.1
    have l3 := Later.cell (cells4 hr6).1.2.2.1
    have l4 := Later.cell (cells4 hr6).1.2.2.2
    have m1 := Later.cell (cells4 hg56).1.1
    have m2 := Later.cell (cells4 hg56).1.2.1
    have m3 := Later.cell (cells4 hg56).1.2.2.1
    have m4 := Later.cell (cells4 hg56).1.2.2.2
    have HVW : Hid (∀ W, Below W6.heap.size W6 W → v.At (fun _ => True) W (.agg #[.int .u8 ((K : Nat) : Int), .int .i64 N, .string z, .slice a m c])) := fun W hW => (unhide HA).later ((unhide HB6).trans (hW.mono (unhide HB6).size))
    have HC1 : Hid (∀ W, Below W6.heap.size W6 W → Calls Tryd.prog 15 #[.agg #[.int .u8 ((cK : Nat) : Int), .int .i64 cN, .string cz, .slice ca cm cc], .agg #[.int .u8 ((K : Nat) : Int), .int .i64 N, .string z, .slice a m c]] W fun e w' => e = .returned (.bool true) ∧ Below W.heap.size W w') := fun W hW => (same_any v v _ _ _ _ W ((unhide HC6).later hW) (unhide HVW W hW) (unhide HDP).2 (unhide HDP).1).mono fun e w' h => by rw [(VD.same_iff v v).2 rfl] at h; exact h
    have HC2 : Hid (∀ W, Below W6.heap.size W6 W → Calls Tryd.prog 15 #[.agg #[.int .u8 ((K : Nat) : Int), .int .i64 N, .string z, .slice a m c], .agg #[.int .u8 ((cK : Nat) : Int), .int .i64 cN, .string cz, .slice ca cm cc]] W fun e w' => e = .returned (.bool true) ∧ Below W.heap.size W w') := fun W hW => (same_any v v _ _ _ _ W (unhide HVW W hW) ((unhide HC6).later hW) (unhide HDP).2 (unhide HDP).1).mono fun e w' h => by rw [(VD.same_iff v v).2 rfl] at h; exact h
    obtain ⟨P, hP⟩ : ∃ P, P = v.parts := ⟨_, rfl⟩
    have HC3 : Hid (∀ W, Below W6.heap.size W6 W → Calls Tryd.prog 13 #[.agg #[.int .u8 ((cK : Nat) : Int), .int .i64 cN, .string cz, .slice ca cm cc]] W fun e w' => e = .returned (.int .i64 ((P : Nat) : Int)) ∧ Below W.heap.size W w') := fun W hW => by rw [hP]; exact parts_any v _ _ W ((unhide HC6).later hW) (unhide HDP).2 (unhide HDP).1
    have HC4' : Hid (∀ W, Below W6.heap.size W6 W → Calls Tryd.prog 13 #[.agg #[.int .u8 ((K : Nat) : Int), .int .i64 N, .string z, .slice a m c]] W fun e w' => e = .returned (.int .i64 ((P : Nat) : Int)) ∧ Below W.heap.size W w') := fun W hW => by rw [hP]; exact parts_any v _ _ W (unhide HVW W hW) (unhide HDP).2 (unhide HDP).1
    have HPE := hide hP
    have hne : Nonempty (Later W6) := ⟨⟨W6, Below.refl _ _⟩⟩
    clear hd hb5 hW6 hb6 hg6 hb46 hr6 hg56 i0 i1 i2 i3 HR4 HG5 HC4 HB4 hP
    go_upto_region 5 with fail
    rw [← unhide HW6]
    clear HW6
    go_cut [32] (fun v wx => v = .bool false ∧ Below W6.heap.size W6 wx)
    case first =>
      refine wp_region_later (by kernel_rfl) ?_
      repeat (go_big_quiet_step ((rename_i q; first
        | (have _t := q; go_at_call 15; refine (unhide HC1 _ q.2).mono ?_; rintro e w11 ⟨rfl, hb11⟩; exact ⟨rfl, q.then hb11⟩)
        | (go_at_call 15; refine (unhide HC2 _ q.2).mono ?_; rintro e w11 ⟨rfl, hb11⟩; exact ⟨rfl, q.then hb11⟩)
        | (go_at_call 13; refine (unhide HC3 _ q.2).mono ?_; rintro e w11 ⟨rfl, hb11⟩; exact ⟨rfl, q.then hb11⟩)
        | (go_at_call 13; refine (unhide HC4' _ q.2).mono ?_; rintro e w11 ⟨rfl, hb11⟩; exact ⟨rfl, q.then hb11⟩))))
      refine wpQuiet_nil ?_
      rintro _ ⟨q, rfl⟩
      have HFIN : Hid (Below W6.heap.size W6 q.1) := q.2
      generalize q.1 = W20 at *
      go_wp2_with fail
      go_meet
      exact ⟨rfl, unhide HFIN⟩
    obtain ⟨rfl, hb7⟩ := hcut
    rename_i W7
    have hr7 := (hb7.block _ (lt_rowV (unhide HR6))).trans (unhide HR6)
    have hg57 := (hb7.block _ (lt_rowV (unhide HG56))).trans (unhide HG56)
    have hg67 := (hb7.block _ (lt_rowV (unhide HG6))).trans (unhide HG6)
    obtain ⟨⟨i0, i1, i2, i3⟩, -⟩ := cells4 hg57
    have HB7 := hide hb7
    have HP0 : Hid (0 < P) := by show _ < _; rw [unhide HPE]; exact v.parts_pos
    clear hb7 l1 l2 l3 l4 m1 m2 m3 m4 hne HC1 HC2 HC4' hr7 hg67
    have hp0 : ¬ ((P : Nat) : Int) = 0 := by have := unhide HP0; omega
    have hp0b : (((P : Nat) : Int) == 0) = false := beq_eq_false_iff_ne.2 hp0
    obtain ⟨kk, hkk⟩ : ∃ kk, kk = t % P := ⟨_, rfl⟩
    have hmodE : ((t : Nat) : Int) % ((P : Nat) : Int) = ((kk : Nat) : Int) := by rw [hkk]; exact (Int.natCast_emod t P).symm
    have hmodT : ((t : Nat) : Int).tmod ((P : Nat) : Int) = ((kk : Nat) : Int) := by rw [Int.tmod_eq_emod_of_nonneg (by omega)]; exact hmodE
    have HKK : Hid (kk < P ∧ kk ≤ 1000000) := by
      have h1 : kk < P := by rw [hkk]; exact Nat.mod_lt _ (unhide HP0)
      have h2 : P ≤ 600 := by rw [unhide HPE]; exact unhide HPA
      exact ⟨h1, by omega⟩
    clear hkk
    go_upto_region 7 with fail
    go_wp2_with fail
    refine (unhide HC3 _ (unhide HB7)).mono ?_
    rintro e W8 ⟨rfl, hb8⟩
    have hb69 : Below W6.heap.size W6 (W8.alloc (.cells #[.int .i64 ((kk : Nat) : Int)] 3)) := ((unhide HB7).trans (hb8.mono (unhide HB7).size)).alloc ((unhide HB7).trans (hb8.mono (unhide HB7).size)).size _
    obtain ⟨W9, hW9⟩ : ∃ W9, W9 = W8.alloc (.cells #[.int .i64 ((kk : Nat) : Int)] 3) := ⟨_, rfl⟩
    rw [← hW9] at hb69
    have hs68 : W6.heap.size ≤ W8.heap.size := ((unhide HB7).trans (hb8.mono (unhide HB7).size)).size
    have hg7 : W9.heap[W8.heap.size]? = some (.cells #[.int .i64 ((kk : Nat) : Int)] 3 (0, 0)) := by rw [hW9]; exact heap_alloc_new _ _
    have hr9 := (hb69.block _ (lt_rowV (unhide HR6))).trans (unhide HR6)
    have hg59 := (hb69.block _ (lt_rowV (unhide HG56))).trans (unhide HG56)
    have hg69 := (hb69.block _ (lt_rowV (unhide HG6))).trans (unhide HG6)
    have hs56 : W5.heap.size < W6.heap.size := lt_rowV (unhide HG6)
    have hs35 : W3.heap.size < W5.heap.size := by have := (unhide HS45).1; have := (unhide HS45).2; omega
    have hc9 : v.At (fun k => k = W3.heap.size ∨ (k < W3.heap.size ∧ W2.heap.size ≤ k ∧ NFz W9 k)) W9 (.agg #[.int .u8 ((cK : Nat) : Int), .int .i64 cN, .string cz, .slice ca cm cc]) := (unhide HC6).kept (fun k _ hk => hb69.block k hk) (fun k hk hlt => .inr ⟨hk.1, hk.2.1, hk.2.2.keep (hb69.block k hlt)⟩)
    have hd9 := (unhide HD6).later hb69
    have hPV : PV (fun k => k = W3.heap.size ∨ (k < W3.heap.size ∧ W2.heap.size ≤ k ∧ NFz W9 k)) W9 W3.heap.size 0 v := ⟨_, _, _, _, (cells4 hg59).1.1, (cells4 hg59).1.2.1, (cells4 hg59).1.2.2.1, (cells4 hg59).1.2.2.2, hc9⟩
    have hBh : ∀ k, (k = W3.heap.size ∨ (k < W3.heap.size ∧ W2.heap.size ≤ k ∧ NFz W9 k)) → k ≠ W8.heap.size := fun k hk => by rcases hk with rfl | hk <;> omega
    have hCH := vChange_any v _ W9 W3.heap.size 0 W8.heap.size kk hPV (by omega) hBh (fun k i hk => by
      rcases hk with rfl | rfl | hk
      · exact frozen_of_row _ _ _ _ _ hg59
      · exact frozen_of_row _ _ _ _ _ hg59
      · exact hk.2.2 i) (cell_of_row _ _ 0 _ _ _ hg7) (frozen_of_row _ _ _ _ _ hg7) (unhide HDP).2 (unhide HKK).2
    have HCH := hide hCH
    have HPV := hide hPV
    have HBH := hide hBh
    have HB09 : Hid (Below w.heap.size w W9) := (unhide HB6).trans (hb69.mono (unhide HB6).size)
    have HR9 := hide hr9
    have HG69 := hide hg69
    have HD9 := hide hd9
    have HSS : Hid (w.heap.size < W2.heap.size ∧ W2.heap.size ≤ W3.heap.size ∧ W3.heap.size < W4.heap.size ∧ W4.heap.size ≤ W5.heap.size ∧ W5.heap.size < W6.heap.size ∧ W6.heap.size ≤ W8.heap.size ∧ W8.heap.size < W9.heap.size) := ⟨unhide HWS2, unhide HS23, (unhide HS45).1, (unhide HS45).2, hs56, hs68, lt_rowV hg7⟩
    have HW9 := hide hW9
    clear hb8 hb69 hW9 hs68 hg7 hr9 hg59 hg69 hs56 hs35 hc9 hd9 hPV hBh hCH i0 i1 i2 i3 HC3 HB7 HR6 HG56 HG6 HC6 HD6 HVW HB6 HS23 HS45 HWS2 hg57
    go_upto_region 8 with fail
    rw [← unhide HW9]
    clear HW9 hmodE hmodT hp0 hp0b
    go_wp2_with fail
    refine (unhide HCH).mono ?_
    rintro e Wc ⟨W10, z0, hHS, ⟨_, rfl, q, x, y, hq, hy, hqB, hWc, hne⟩ | ⟨hle, _⟩⟩
    case inr => exact absurd hle (by have := (unhide HKK).1; have := unhide HPE; omega)
    have hPV10 := (unhide HPV).hs hHS (by have := unhide HSS; omega) (unhide HBH)
    obtain ⟨v', hPV', hpar, hdp⟩ := poke_struct hq hy (.inl rfl) hPV10
    rw [← hWc] at hPV'
    have hvne := hne v' hPV'
    have hqr : W2.heap.size ≤ q.block ∧ q.block ≤ W3.heap.size := by
      have := unhide HSS
      rcases hqB with h | h | h <;> omega
    have hkc : ∀ k, k < W2.heap.size ∨ W3.heap.size < k → k ≠ W8.heap.size → Wc.heap[k]? = W9.heap[k]? := fun k hk hn => by
      rw [hWc, Below.heap_setCell _ _ _ _ (by omega)]
      exact hHS.block k hn
    have hBc : Below w.heap.size w Wc := by
      have hsz : W9.heap.size = Wc.heap.size := by rw [hWc, World.size_setCell]; exact hHS.size.symm
      have e1 : Wc.os = W9.os := by rw [hWc]; exact hHS.os
      have e2 : Wc.tape = W9.tape := by rw [hWc]; exact hHS.tape
      have e3 : Wc.output = W9.output := by rw [hWc]; exact hHS.output
      have h9 := unhide HB09
      have hss := unhide HSS
      exact ⟨e1.trans h9.os, e2.trans h9.tape, e3.trans h9.output, by rw [← hsz]; exact h9.size, fun k hk => (hkc k (.inl (by omega)) (by omega)).trans (h9.block k hk)⟩
    have hrc := (hkc w.heap.size (.inl (unhide HSS).1) (by have := unhide HSS; omega)).trans (unhide HR9)
    have hgc := (hkc W5.heap.size (.inr (by have := unhide HSS; omega)) (by have := unhide HSS; omega)).trans (unhide HG69)
    have hdc : v.At (fun _ => True) Wc (.agg #[.int .u8 ((dK : Nat) : Int), .int .i64 dN, .string dz, .slice da dm dc]) := (unhide HD9).kept (fun k hk _ => hkc k (.inr (by have := unhide HSS; omega)) (by have := unhide HSS; omega)) (fun _ _ _ => trivial)
    obtain ⟨K', m', c', N', z', a', p0, p1, p2, p3, hc'⟩ := hPV'.explicit
    obtain ⟨⟨i0, i1, i2, i3⟩, -⟩ := cells4 hrc
    obtain ⟨⟨j0, j1, j2, j3⟩, -⟩ := cells4 hgc
    have HCS : Hid (Calls Tryd.prog 15 #[.agg #[.int .u8 ((K' : Nat) : Int), .int .i64 N', .string z', .slice a' m' c'], .agg #[.int .u8 ((dK : Nat) : Int), .int .i64 dN, .string dz, .slice da dm dc]] Wc fun e w' => e = .returned (.bool false) ∧ Below Wc.heap.size Wc w') := (same_any v' v _ _ _ _ Wc hc' hdc (by rw [hpar]; exact (unhide HDP).2) (by rw [hdp]; exact (unhide HDP).1)).mono fun e w' h => by
      rw [show v'.same v = false by rw [Bool.eq_false_iff]; exact fun h => hvne ((VD.same_iff _ _).1 h)] at h
      exact h
    have HCT : Hid (∀ W, Below Wc.heap.size Wc W → Calls Tryd.prog 15 #[.agg #[.int .u8 ((dK : Nat) : Int), .int .i64 dN, .string dz, .slice da dm dc], .agg #[.int .u8 ((K : Nat) : Int), .int .i64 N, .string z, .slice a m c]] W fun e w' => e = .returned (.bool true) ∧ Below W.heap.size W w') := fun W hW => (same_any v v _ _ _ _ W (hdc.later hW) ((unhide HA).later (hBc.trans (hW.mono hBc.size))) (unhide HDP).2 (unhide HDP).1).mono fun e w' h => by rw [(VD.same_iff v v).2 rfl] at h; exact h
    have HBC := hide hBc
    have HRC := hide hrc
    have HGC := hide hgc
    clear hHS hq hy hqB hWc hne hPV10 hPV' hpar hdp hvne hqr hkc hBc hrc hgc hdc hc' HCH HPV HBH HB09 HR9 HG69 HD9 HSS HKK
    go_wp2_with fail
    refine (unhide HCS).mono ?_
    rintro e Wd ⟨rfl, hbd⟩
    have HBD0 := hide hbd
    have hkk : ∀ {p : Addr} {x : Value}, Wc.cell? p = some x → Wd.cell? p = some x := fun hx => (hbd.cell (World.block_lt_of_cell? _ _ hx)).trans hx
    have r0 := hkk i0
    have r1 := hkk i1
    have r2 := hkk i2
    have r3 := hkk i3
    have s0 := hkk j0
    have s1 := hkk j1
    have s2 := hkk j2
    have s3 := hkk j3
    clear hbd hkk i0 i1 i2 i3 j0 j1 j2 j3 p0 p1 p2 p3
    go_wp2_with fail
    refine (unhide HCT _ (unhide HBD0)).mono ?_
    rintro e We ⟨rfl, hbe⟩
    have HBE := hide ((unhide HBC).trans (((unhide HBD0).trans (hbe.mono (unhide HBD0).size)).mono (unhide HBC).size))
    clear hbe r0 r1 r2 r3 s0 s1 s2 s3
    go_wp2_with fail
    have hbf : Below w.heap.size w (We.alloc (.cells #[] 24)) := (unhide HBE).alloc (unhide HBE).size _
    have hl1 : ∀ (x : Option Addr), (VD.mk 2 0 [] []).At (fun _ => True) (We.alloc (.cells #[] 24)) (.agg #[.int .u8 2, .int .i64 0, .string ⟨#[]⟩, .slice x 0 0]) := fun x => by
      rw [VD.at_iff]
      exact ⟨x, 0, rfl, by simp [VD.k], by show InR 0; unfold InR; omega, Nat.zero_le _, Nat.le_refl _, Nat.zero_le _, fun j hj => absurd hj (Nat.not_lt_zero j)⟩
    refine (same_any (.mk 2 0 [] []) (.mk 2 0 [] []) _ _ _ _ _ (hl1 _) (hl1 none) (by decide) (by decide)).mono ?_
    rintro e Wf ⟨rfl, hbg⟩
    rw [(VD.same_iff (VD.mk 2 0 [] []) _).2 rfl]
    have HBF := hide (hbf.trans (hbg.mono hbf.size))
    clear hbf hl1 hbg HBE
    go_wp2_with fail
    refine (awake_any Wf ((unhide HTB).later (unhide HBF))).mono ?_
    rintro e Wg ⟨rfl, hbg⟩
    have HBG := hide ((unhide HBF).trans (hbg.mono (unhide HBF).size))
    clear hbg
    go_wp2_with fail
    go_ret
    exact ⟨rfl, unhide HBG⟩
end Go.Proofs.YtobgmbfoofkdeaaDoor
