/- ValueKinds of foremanlaw08: its walk. No statement of the seat is proved here. -/
import Derived.Test.YtobgmbfoofkdeaaDoorBase11
import Derived.Test.YtobgmbfoofkdeaaDoorBase09
import Derived.Test.YtobgmbfoofkdeaaDoorBase03
namespace Go.Proofs.YtobgmbfoofkdeaaDoor
open Go.RowKit

theorem kindsPlain_eq (K : Nat) (n : Int) (s : List UInt8) : kindsPlain K n s = ((decide (K = 0) && s.isEmpty) || (decide (K = 1) && decide (n = 0) && decide (s.length ≤ 100)) || (decide (K = 2) && decide (n = 0) && s.isEmpty)) := rfl

set_option maxRecDepth 100000 in
set_option maxHeartbeats 2000000 in
theorem kindsLaw_any (n : Int) (s : List UInt8) (K : Nat) (hn : InR n) (hs : s.length ≤ maxLen) (hK : K < 256) (w : World) (hT : Tab w) : Calls Tryd.prog 7 #[.int .i64 n, .string ⟨s.toArray⟩, .int .u8 ((K : Nat) : Int)] w fun e w' => e = .returned (.bool true) ∧ Below w.heap.size w w' := by
  have hsz : (⟨s.toArray⟩ : ByteArray).size = s.length := by simp [ByteArray.size]
  have hzl : (⟨s.toArray⟩ : ByteArray).toList = s := by rw [ByteArray.toList_eq]
  obtain ⟨m, hm⟩ : ∃ m, m = s.length := ⟨_, rfl⟩
  obtain ⟨se, hse⟩ : ∃ se, se = s.isEmpty := ⟨_, rfl⟩
  obtain ⟨z, hz⟩ : ∃ z : ByteArray, z = ⟨s.toArray⟩ := ⟨_, rfl⟩
  rw [← hz] at hsz hzl ⊢
  rw [← hm] at hsz
  have hze : z.toList.isEmpty = se := by rw [hzl, hse]
  have HTB := hide hT
  have hpl := kindsPlain_eq K n s
  rw [← hse, ← hm] at hpl
  by_cases h300 : 300 < m
  · have hgt : ((m : Nat) : Int) > 300 := by omega
    clear h300
    go_enter Tryd.func7, Tryd.ntmps7
    go_wp2_with fail
    refine (awake_any w (unhide HTB)).mono ?_
    rintro e w1 ⟨rfl, hb1⟩
    have HB1 := hide hb1
    clear hb1
    go_wp2_with fail
    go_ret
    exact ⟨rfl, unhide HB1⟩
  have hgt : ¬ ((m : Nat) : Int) > 300 := by omega
  obtain ⟨want, hwant⟩ : ∃ b, b = kindsPlain K n s := ⟨_, rfl⟩
  rw [← hwant] at hpl
  obtain ⟨W1, hW1⟩ : ∃ W1, W1 = w.alloc (.cells #[.int .u8 ((K : Nat) : Int), .int .i64 n, .string z, .slice none 0 0] 24) := ⟨_, rfl⟩
  obtain ⟨W2, hW2⟩ : ∃ W2, W2 = W1.alloc (.cells #[.int .u8 ((K : Nat) : Int), .int .i64 n, .string z, .slice none 0 0] 24) := ⟨_, rfl⟩
  have hb1 : Below w.heap.size w W1 := by rw [hW1]; exact (Below.refl _ w).alloc (Nat.le_refl _) _
  have hb12 : Below W1.heap.size W1 W2 := by rw [hW2]; exact (Below.refl _ W1).alloc (Nat.le_refl _) _
  have hb2 : Below w.heap.size w W2 := hb1.trans (hb12.mono hb1.size)
  have hs1 : W1.heap.size = w.heap.size + 1 := by rw [hW1]; simp
  have hr1 : W1.heap[w.heap.size]? = some (.cells #[.int .u8 ((K : Nat) : Int), .int .i64 n, .string z, .slice none 0 0] 24 (0, 0)) := by rw [hW1]; exact heap_alloc_new w _
  have hr2 : W2.heap[w.heap.size + 1]? = some (.cells #[.int .u8 ((K : Nat) : Int), .int .i64 n, .string z, .slice none 0 0] 24 (0, 0)) := by rw [hW2, ← hs1]; exact heap_alloc_new _ _
  have hr12 := (hb12.block _ (lt_rowV hr1)).trans hr1
  obtain ⟨⟨a0, a1, a2, a3⟩, -⟩ := cells4 hr1
  have HAT : Hid (∀ (B : Nat → Prop) (W : World), (VD.mk K n s []).At B W (.agg #[.int .u8 ((K : Nat) : Int), .int .i64 n, .string z, .slice none 0 0])) := fun B W => by rw [hz]; exact at_plain hK hn hs
  have HWN := hide hwant
  have HS1 := hide hs1
  have HW1 := hide hW1
  have HW2 := hide hW2
  have HB2 := hide hb2
  have HR12 := hide hr12
  have HR2 := hide hr2
  have HPL := hide hpl
  have HNK := hide (show InR n ∧ s.length ≤ maxLen ∧ K < 256 from ⟨hn, hs, hK⟩)
  have HZ := hide hz
  clear h300 hwant hs1 hW1 hW2 hb1 hb12 hb2 hr1 hr2 hr12 hpl hn hs hz hm hse hzl hT hK
  go_enter Tryd.func7, Tryd.ntmps7
  go_upto_region 4 with fail
  rw [← unhide HW1]
  clear HW1
  go_cut [8] (fun t wx => t = .bool want ∧ wx = W1)
  case first =>
    by_cases k0 : K = 0
    · have g0 : (((K : Nat) : Int) == 0) = true := by rw [beq_iff_eq]; omega
      have g1 : (((K : Nat) : Int) == 1) = false := by rw [beq_eq_false_iff_ne]; omega
      have g2 : (((K : Nat) : Int) == 2) = false := by rw [beq_eq_false_iff_ne]; omega
      have HV : Hid (want = se) := by show _ = _; rw [unhide HPL, k0]; simp
      clear k0
      cases se with
      | true =>
        go_wp2_with fail
        go_meet
        exact ⟨by rw [unhide HV], rfl⟩
      | false =>
        go_wp2_with fail
        go_meet
        exact ⟨by rw [unhide HV], rfl⟩
    have g0 : (((K : Nat) : Int) == 0) = false := by rw [beq_eq_false_iff_ne]; omega
    by_cases k1 : K = 1
    · have g1 : (((K : Nat) : Int) == 1) = true := by rw [beq_iff_eq]; omega
      have g2 : (((K : Nat) : Int) == 2) = false := by rw [beq_eq_false_iff_ne]; omega
      have HV : Hid (want = (decide (n = 0) && decide (m ≤ 100))) := by show _ = _; rw [unhide HPL, k1]; simp
      clear k0 k1
      by_cases hN0 : n = 0
      · have gN : (n == 0) = true := beq_iff_eq.2 hN0
        have HN0 := hide hN0
        clear hN0
        by_cases hm1 : m ≤ 100
        · have gm : ((m : Nat) : Int) ≤ 100 := by omega
          have HM1 := hide hm1
          clear hm1
          go_wp2_with fail
          go_meet
          exact ⟨by rw [unhide HV, decide_eq_true (unhide HN0), decide_eq_true (unhide HM1)]; rfl, rfl⟩
        · have gm : ¬ ((m : Nat) : Int) ≤ 100 := by omega
          have HM1 := hide hm1
          clear hm1
          go_wp2_with fail
          go_meet
          exact ⟨by rw [unhide HV, decide_eq_false (unhide HM1)]; simp, rfl⟩
      · have gN : (n == 0) = false := beq_eq_false_iff_ne.2 hN0
        have HN0 := hide hN0
        clear hN0
        go_wp2_with fail
        go_meet
        exact ⟨by rw [unhide HV, decide_eq_false (unhide HN0)]; simp, rfl⟩
    have g1 : (((K : Nat) : Int) == 1) = false := by rw [beq_eq_false_iff_ne]; omega
    by_cases k2 : K = 2
    · have g2 : (((K : Nat) : Int) == 2) = true := by rw [beq_iff_eq]; omega
      have HV : Hid (want = (decide (n = 0) && se)) := by show _ = _; rw [unhide HPL, k2]; simp
      clear k0 k1 k2
      by_cases hN0 : n = 0
      · have gN : (n == 0) = true := beq_iff_eq.2 hN0
        have HN0 := hide hN0
        clear hN0
        cases se with
        | true =>
          go_wp2_with fail
          go_meet
          exact ⟨by rw [unhide HV, decide_eq_true (unhide HN0)]; rfl, rfl⟩
        | false =>
          go_wp2_with fail
          go_meet
          exact ⟨by rw [unhide HV]; simp, rfl⟩
      · have gN : (n == 0) = false := beq_eq_false_iff_ne.2 hN0
        have HN0 := hide hN0
        clear hN0
        go_wp2_with fail
        go_meet
        exact ⟨by rw [unhide HV, decide_eq_false (unhide HN0)]; simp, rfl⟩
    · have g2 : (((K : Nat) : Int) == 2) = false := by rw [beq_eq_false_iff_ne]; omega
      have HV : Hid (want = false) := by show _ = _; rw [unhide HPL, decide_eq_false k0, decide_eq_false k1, decide_eq_false k2]; simp
      clear k0 k1 k2
      go_wp2_with fail
      go_meet
      exact ⟨by rw [unhide HV], rfl⟩
  obtain ⟨rfl, hw⟩ := hcut
  rw [hw]
  clear hw
  go_upto_region 6 with fail
  rw [← unhide HW2]
  rw [unhide HS1]
  clear HW2 a0 a1 a2 a3
  go_wp2_with fail
  refine (vNum_any 1 _).mono ?_
  rintro e W3 ⟨rfl, hb3⟩
  have hv3 := (hb3.block _ (lt_rowV (unhide HR12))).trans (unhide HR12)
  have hw3 := (hb3.block _ (lt_rowV (unhide HR2))).trans (unhide HR2)
  obtain ⟨⟨c0, c1, c2, c3⟩, d0, d1, d2, d3⟩ := cells4 hw3
  have hlt3 : w.heap.size + 1 < W3.heap.size := Nat.lt_of_lt_of_le (lt_rowV (unhide HR2)) hb3.size
  obtain ⟨W4, hW4⟩ : ∃ W4, W4 = W3.alloc (.cells #[.int .u8 0, .int .i64 1, .string ⟨#[]⟩, .slice none 0 0] 24) := ⟨_, rfl⟩
  obtain ⟨W5, hW5⟩ : ∃ W5, W5 = W4.setCell ⟨w.heap.size + 1, 3, none⟩ (.slice (some ⟨W3.heap.size, 0, none⟩) 1 1) := ⟨_, rfl⟩
  have hb4 : Below W3.heap.size W3 W4 := by rw [hW4]; exact (Below.refl _ _).alloc (Nat.le_refl _) _
  have hg4 : W4.heap[W3.heap.size]? = some (.cells #[.int .u8 0, .int .i64 1, .string ⟨#[]⟩, .slice none 0 0] 24 (0, 0)) := by rw [hW4]; exact heap_alloc_new _ _
  have hv4 := (hb4.block _ (lt_rowV hv3)).trans hv3
  have hw4 := (hb4.block _ (lt_rowV hw3)).trans hw3
  have hv5 : W5.heap[w.heap.size]? = some (.cells #[.int .u8 ((K : Nat) : Int), .int .i64 n, .string z, .slice none 0 0] 24 (0, 0)) := by rw [hW5, Below.heap_setCell _ _ _ _ (by show w.heap.size ≠ w.heap.size + 1; omega)]; exact hv4
  have hw5 : W5.heap[w.heap.size + 1]? = some (.cells #[.int .u8 ((K : Nat) : Int), .int .i64 n, .string z, .slice (some ⟨W3.heap.size, 0, none⟩) 1 1] 24 (0, 0)) := by rw [hW5]; exact heap_setCell_same _ _ _ _ _ _ hw4
  have hg5 : W5.heap[W3.heap.size]? = some (.cells #[.int .u8 0, .int .i64 1, .string ⟨#[]⟩, .slice none 0 0] 24 (0, 0)) := by rw [hW5, Below.heap_setCell _ _ _ _ (by show W3.heap.size ≠ w.heap.size + 1; omega)]; exact hg4
  have hb03 : Below w.heap.size w W3 := (unhide HB2).trans (hb3.mono (unhide HB2).size)
  have hb05 : Below w.heap.size w W5 := by rw [hW5]; exact (hb03.trans (hb4.mono hb03.size)).setCell (p := ⟨w.heap.size + 1, 3, none⟩) (by show w.heap.size ≤ w.heap.size + 1; omega) _
  have hxA : (VD.mk K n s [.mk 0 1 [] []]).At (fun _ => True) W5 (.agg #[.int .u8 ((K : Nat) : Int), .int .i64 n, .string z, .slice (some ⟨W3.heap.size, 0, none⟩) 1 1]) := by
    rw [VD.at_iff]
    refine ⟨_, 1, by rw [unhide HZ]; rfl, (unhide HNK).2.2, (unhide HNK).1, (unhide HNK).2.1, Nat.le_refl _, by unfold maxLen; omega, fun i hi => ?_⟩
    obtain rfl : i = 0 := by simp [VD.l] at hi; omega
    exact ⟨W3.heap.size, 0, _, _, _, _, rfl, trivial, cell_of_row _ _ 0 _ _ _ hg5, cell_of_row _ _ 1 _ _ _ hg5, cell_of_row _ _ 2 _ _ _ hg5, cell_of_row _ _ 3 _ _ _ hg5, at_plain (k := 0) (n := 1) (s := []) (by omega) (by unfold InR; omega) (Nat.zero_le _)⟩
  obtain ⟨more, hmore⟩ : ∃ b, b = (decide (K = 2) && want) := ⟨_, rfl⟩
  have HKS : Hid (∀ X, Below W5.heap.size W5 X → (X.cell? ⟨w.heap.size, 0, none⟩ = some (.int .u8 ((K : Nat) : Int)) ∧ X.cell? ⟨w.heap.size, 1, none⟩ = some (.int .i64 n) ∧ X.cell? ⟨w.heap.size, 2, none⟩ = some (.string z) ∧ X.cell? ⟨w.heap.size, 3, none⟩ = some (.slice none 0 0)) ∧ (X.cell? ⟨w.heap.size + 1, 0, none⟩ = some (.int .u8 ((K : Nat) : Int)) ∧ X.cell? ⟨w.heap.size + 1, 1, none⟩ = some (.int .i64 n) ∧ X.cell? ⟨w.heap.size + 1, 2, none⟩ = some (.string z) ∧ X.cell? ⟨w.heap.size + 1, 3, none⟩ = some (.slice (some ⟨W3.heap.size, 0, none⟩) 1 1))) := fun X hX => ⟨(cells4 ((hX.block _ (lt_rowV hv5)).trans hv5)).1, (cells4 ((hX.block _ (lt_rowV hw5)).trans hw5)).1⟩
  have HR1 : Hid (∀ X, Calls Tryd.prog 12 #[.agg #[.int .u8 ((K : Nat) : Int), .int .i64 n, .string z, .slice none 0 0]] X fun e w' => e = .returned (.bool want) ∧ Below X.heap.size X w') := fun X => (right_any _ (fun _ => True) _ X (unhide HAT _ X)).mono fun e w' h => by rw [right_plain, ← unhide HWN] at h; exact h
  have HR3 : Hid (∀ X, Below W5.heap.size W5 X → Calls Tryd.prog 12 #[.agg #[.int .u8 ((K : Nat) : Int), .int .i64 n, .string z, .slice (some ⟨W3.heap.size, 0, none⟩) 1 1]] X fun e w' => e = .returned (.bool more) ∧ Below X.heap.size X w') := fun X hX => (right_any _ (fun _ => True) _ X (hxA.later hX)).mono fun e w' h => by rw [right_one, ← unhide HWN, ← hmore] at h; exact h
  have HR5 : Hid (∀ X g, X.heap[g]? = some (.cells #[.int .u8 ((K : Nat) : Int), .int .i64 n, .string z, .slice none 0 0, .int .u8 0, .int .i64 2, .string ⟨#[]⟩, .slice none 0 0] 24 (0, 0)) → Calls Tryd.prog 12 #[.agg #[.int .u8 2, .int .i64 0, .string ⟨#[]⟩, .slice (some ⟨g, 0, none⟩) 2 2]] X fun e w' => e = .returned (.bool want) ∧ Below X.heap.size X w') := fun X g hg => by
    refine (right_any (VD.mk 2 0 [] [.mk K n s [], .mk 0 2 [] []]) (fun _ => True) _ X ?_).mono fun e w' h => by rw [right_two, ← unhide HWN] at h; exact h
    rw [VD.at_iff]
    refine ⟨some ⟨g, 0, none⟩, 2, rfl, by simp [VD.k], by show InR 0; unfold InR; omega, Nat.zero_le _, Nat.le_refl _, by unfold maxLen; omega, fun i hi => ?_⟩
    have hi : i < 2 := hi
    have hc : i = 0 ∨ i = 1 := by omega
    rcases hc with rfl | rfl
    · exact ⟨g, 0, _, _, _, _, rfl, trivial, cell_of_row _ _ 0 _ _ _ hg, cell_of_row _ _ 1 _ _ _ hg, cell_of_row _ _ 2 _ _ _ hg, cell_of_row _ _ 3 _ _ _ hg, unhide HAT _ _⟩
    · exact ⟨g, 0, _, _, _, _, rfl, trivial, cell_of_row _ _ 4 _ _ _ hg, cell_of_row _ _ 5 _ _ _ hg, cell_of_row _ _ 6 _ _ _ hg, cell_of_row _ _ 7 _ _ _ hg, at_plain (k := 0) (n := 2) (s := []) (by omega) (by unfold InR; omega) (Nat.zero_le _)⟩
  have HTW : Hid (∀ X, Below W5.heap.size W5 X → Tab X) := fun X hX => ((unhide HTB).later hb05).later hX
  have HMO := hide hmore
  have HB5 := hide hb05
  rw [hW4] at hW5
  have HW5 := hide hW5
  have e3 : ∀ o, (W3.alloc o).cell? ⟨w.heap.size + 1, 3, none⟩ = some (.slice none 0 0) := fun o => (((Below.refl _ W3).alloc (Nat.le_refl _) o).cell (World.block_lt_of_cell? _ _ c3)).trans c3
  have f3 : ∀ o, (W3.alloc o).frozen? ⟨w.heap.size + 1, 3, none⟩ = false := fun o => (((Below.refl _ W3).alloc (Nat.le_refl _) o).frozen (World.block_lt_of_cell? _ _ c3)).trans d3
  clear hb3 hW4 hW5 hb4 hg4 hv3 hw3 hv4 hw4 hlt3 hv5 hw5 hg5 hb03 hb05 hxA hmore
  go_upto_region 7 with fail
  rw [← unhide HW5]
  clear HW5 c0 c1 c2 c3 d0 d1 d2 d3 e3 f3
  go_cut [10] (fun t wx => t = .bool more ∧ wx = W5)
  case first =>
    by_cases k2 : K = 2
    · have g2 : (((K : Nat) : Int) == 2) = true := by rw [beq_iff_eq]; omega
      have HV : Hid (more = want) := by show _ = _; rw [unhide HMO, k2]; simp
      clear k2
      go_wp2_with fail
      go_meet
      exact ⟨by rw [unhide HV], rfl⟩
    · have g2 : (((K : Nat) : Int) == 2) = false := by rw [beq_eq_false_iff_ne]; omega
      have HV : Hid (more = false) := by show _ = _; rw [unhide HMO, decide_eq_false k2]; rfl
      clear k2
      go_wp2_with fail
      go_meet
      exact ⟨by rw [unhide HV], rfl⟩
  obtain ⟨rfl, hw⟩ := hcut
  rw [hw]
  clear hw
  clear hze hsz HWN HMO HPL HZ HNK HAT HR12 HR2 HB2
  obtain ⟨⟨a0, a1, a2, a3⟩, b0, b1, b2, b3⟩ := unhide HKS W5 (Below.refl _ _)
  go_upto_region 8 with fail
  go_region_law (first
    | (refine step_callsW Tryd.func12 (by kernel_rfl) (by kernel_rfl) (by simp [Region.wanted, yielded, Act.put]) _ _ rfl _ (by simp [Act.eval]; done) (unhide HR1 _) ?_; rintro e W6 ⟨rfl, hb6⟩; refine ⟨_, rfl, ?_⟩; have h6 : Below W5.heap.size W5 W6 := (Below.refl _ _).drew.trans hb6; have k6 := unhide HKS W6 h6; obtain ⟨⟨p0, p1, p2, p3⟩, q0, q1, q2, q3⟩ := k6; clear hb6)
    | (refine step_callsW Tryd.func12 (by kernel_rfl) (by kernel_rfl) (by simp [Region.wanted, yielded, Act.put]) _ _ rfl _ (by simp [Act.eval]; done) (unhide HR3 W6 h6) ?_; rintro e W7 ⟨rfl, hb7⟩; refine ⟨_, rfl, ?_⟩; have h7 : Below W5.heap.size W5 W7 := h6.trans (hb7.mono h6.size); have k7 := unhide HKS W7 h7; obtain ⟨⟨r0, r1, r2, r3⟩, s0, s1, s2, s3⟩ := k7; clear hb7)
    | (refine step_callsW Tryd.func27 (by kernel_rfl) (by kernel_rfl) (by simp [Region.wanted, yielded, Act.put]) _ _ rfl _ (by simp [Act.eval]; done) (vNum_any 2 W7) ?_; rintro e W8 ⟨rfl, hb8⟩; refine ⟨_, rfl, ?_⟩; have h8 : Below W5.heap.size W5 W8 := h7.trans (hb8.mono h7.size); have k8 := unhide HKS W8 h8; obtain ⟨⟨t0, t1, t2, t3⟩, -⟩ := k8; clear hb8)
    | (refine step_callsW Tryd.func28 (by kernel_rfl) (by kernel_rfl) (by simp [Region.wanted, yielded, Act.put]) _ _ rfl _ (by simp [Act.eval]; done) (vList_any (some ⟨W8.heap.size, 0, none⟩) 2 2 (W8.alloc (.cells #[.int .u8 ((K : Nat) : Int), .int .i64 n, .string z, .slice none 0 0, .int .u8 0, .int .i64 2, .string ⟨#[]⟩, .slice none 0 0] 24))) ?_; rintro e W9 ⟨rfl, hb9⟩; refine ⟨_, rfl, ?_⟩; have h9 : Below W5.heap.size W5 W9 := (h8.alloc h8.size _).trans (hb9.mono (h8.alloc h8.size _).size); have g9 := (hb9.block _ (lt_rowV (heap_alloc_new W8 _))).trans (heap_alloc_new W8 _); have HG9 := hide g9; clear hb9 g9)
    | (refine step_callsW Tryd.func12 (by kernel_rfl) (by kernel_rfl) (by simp [Region.wanted, yielded, Act.put]) _ _ rfl _ (by simp [Act.eval]; done) (unhide HR5 W9 _ (unhide HG9)) ?_; rintro e W10 ⟨rfl, hb10⟩; refine ⟨_, rfl, ?_⟩; have h10 : Below W5.heap.size W5 W10 := h9.trans (hb10.mono h9.size); clear hb10)
    | (refine step_callsW Tryd.func9 (by kernel_rfl) (by kernel_rfl) (by simp [Region.wanted, yielded, Act.put]) _ _ rfl _ (by simp; done) (awake_any W10 (unhide HTW W10 h10)) ?_; rintro e W11 ⟨rfl, hb11⟩; refine ⟨_, rfl, ?_⟩; have h11 : Below W5.heap.size W5 W11 := h10.trans (hb11.mono h10.size); clear hb11))
  all_goals (
    go_wp2_with fail
    go_ret
    exact ⟨rfl, (unhide HB5).trans (h11.mono (unhide HB5).size)⟩)
end Go.Proofs.YtobgmbfoofkdeaaDoor
