/- OpRead, FragPut, GenZeros: our own definitions and contracts; no statement of the seat is proved here. -/
import Derived.Test.YtdlbpbglidhlfaaGreatDoorBase09
import Derived.Test.YtdlbpbglidhlfaaGreatDoorBase11
import Derived.Test.YtdlbpbglidhlfaaGreatDoorBase10
import Derived.Test.YtdlbpbglidhlfaaGreatDoorBase03
import Derived.Test.YtdlbpbglidhlfaaGreatDoorBase01
import Derived.Lib.AppendZerosOnto
namespace Go.Proofs.YtdlbpbglidhlfaaGreatDoor
open Go.RowKit

set_option maxRecDepth 100000 in
set_option maxHeartbeats 8000000 in
theorem oRead_any (b : World) (g : Nat) (bs0 : List UInt8) (w : World) (h : RdO b g false bs0 w) (hbw : Below b.heap.size b w) (hT : OTab w) (hTg : 0 < b.heap.size) : Calls Tryz.prog 36 #[.pointer (some ⟨g, 0, none⟩)] w (OpM b g bs0 w) := by
  have hlg := h.lt
  obtain ⟨W1, hW1⟩ : ∃ W1, W1 = w.alloc (.cells #[.int .u8 0, .string ⟨#[]⟩, .int .i64 0, .int .u8 0, .int .i64 0, .string ⟨#[]⟩, .slice none 0 0, .slice none 0 0, .int .i64 0] 27) := ⟨_, rfl⟩
  have hb1 : Below w.heap.size w W1 := by rw [hW1]; exact (Below.refl _ w).alloc (Nat.le_refl _) _
  have hr1 : W1.heap[w.heap.size]? = some (.cells #[.int .u8 0, .string ⟨#[]⟩, .int .i64 0, .int .u8 0, .int .i64 0, .string ⟨#[]⟩, .slice none 0 0, .slice none 0 0, .int .i64 0] 27 (0, 0)) := by rw [hW1]; exact heap_alloc_new w _
  have HN := hide (oNumber_any b g 5 (by omega) (by omega) false bs0 W1 (h.later hb1))
  have HLG := hide hlg
  have HBW := hide hbw
  have HR1 := hide hr1
  have HB1 := hide hb1
  have HW1 := hide hW1
  have HTB := hide hT
  have HTG := hide hTg
  have HGN := hide h.new
  clear h hb1 hr1 hW1 hbw hlg hT hTg
  go_enter Tryz.func36, Tryz.ntmps36
  go_upto_region 1 with fail
  rw [← unhide HW1]
  clear HW1
  go_wp2_with fail
  refine (unhide HN).mono ?_
  rintro e w2 ⟨x, b1, s1, rfl, hx, hR, hU, ht⟩
  obtain ⟨N, rfl⟩ : ∃ N : Nat, x = ((N : Nat) : Int) := ⟨x.toNat, by omega⟩
  have hwN : IntKind.u8.wrap ((N : Nat) : Int) = ((N : Nat) : Int) := by rw [IntKind.wrap_u8]; omega
  have HN5 : Hid (N ≤ 5) := by show _ ≤ _; omega
  have HT1 := hide ht
  obtain ⟨w3, hw3⟩ : ∃ w3, w3 = w2.alloc (.cells #[.int .u8 ((N : Nat) : Int), .string ⟨#[]⟩, .int .i64 0, .int .u8 0, .int .i64 0, .string ⟨#[]⟩, .slice none 0 0, .slice none 0 0, .int .i64 0] 27) := ⟨_, rfl⟩
  have hb3 : Below w2.heap.size w2 w3 := by rw [hw3]; exact (Below.refl _ _).alloc (Nat.le_refl _) _
  have hr3 : w3.heap[w2.heap.size]? = some (.cells #[.int .u8 ((N : Nat) : Int), .string ⟨#[]⟩, .int .i64 0, .int .u8 0, .int .i64 0, .string ⟨#[]⟩, .slice none 0 0, .slice none 0 0, .int .i64 0] 27 (0, 0)) := by rw [hw3]; exact heap_alloc_new _ _
  have hs1 := (Array.getElem?_eq_some_iff.1 (unhide HR1)).1
  have HI3 : Hid (OpS b w g w.heap.size w2.heap.size #[.int .u8 ((N : Nat) : Int), .string ⟨#[]⟩, .int .i64 0, .int .u8 0, .int .i64 0, .string ⟨#[]⟩, .slice none 0 0, .slice none 0 0, .int .i64 0] b1 s1 w3) := by
    have hu : ButF g W1 w3 := hU.trans (ButF.of hb3)
    have hg := unhide HLG
    exact ⟨hR.later hb3, (ButF.of (unhide HB1)).trans hu, (hu.block _ hs1 (by omega)).trans (unhide HR1), hr3, Nat.le_refl _, Nat.lt_of_lt_of_le hs1 hU.size, hg, unhide HBW⟩
  have HOF0 : Hid (Calls Tryz.prog 24 #[.int .u8 ((N : Nat) : Int)] w3 fun e w' => e = .returned (.int .u8 ((OD.has N : Nat) : Int)) ∧ w' = w3) := by
    have hu : ButF g w w3 := (ButF.of (unhide HB1)).trans (hU.trans (ButF.of hb3))
    refine of_any N (by have := unhide HN5; omega) w3 fun i hi => ?_
    exact hu.cell (unhide HTB i hi) (by show 0 ≠ g; have := unhide HTG; have := unhide HGN; omega)
  have HW3 := hide hw3
  have hcs : N = 0 ∨ N = 1 ∨ (N = 2 ∨ N = 5) ∨ N = 3 ∨ N = 4 := by have := unhide HN5; omega
  clear hx hR hU ht hb3 hr3 hw3 hs1 HR1 HB1 HN HGN HTG HTB
  go_upto_region 2 with fail
  rw [← unhide HW3]
  clear HW3 hwN
  obtain ⟨⟨c0, c1, c2, c3, c4, c5, c6, c7, c8⟩, fz⟩ := (unhide HI3).cells
  rcases hcs with hN | hN | hN | hN | hN
  · have HOF : Hid (Calls Tryz.prog 24 #[.int .u8 ((N : Nat) : Int)] w3 fun e w' => e = .returned (.int .u8 0) ∧ w' = w3) := by have h := unhide HOF0; rw [show OD.has N = 0 by rw [hN]; rfl] at h; exact h
    have HHN := hide hN
    clear hN HOF0
    go_wp2_with fail
    refine (unhide HOF).mono ?_
    rintro e w6 ⟨rfl, hw⟩
    rw [hw]
    clear hw w6
    go_wp2_with fail
    refine (has_any 0 1 (by omega) (by omega) _).mono ?_
    rintro e w6 ⟨rfl, hw⟩
    rw [hw, show OD.sub 1 0 = false from rfl]
    clear hw w6
    go_wp2_with fail
    refine (has_any 0 2 (by omega) (by omega) _).mono ?_
    rintro e w6 ⟨rfl, hw⟩
    rw [hw, show OD.sub 2 0 = false from rfl]
    clear hw w6
    go_wp2_with fail
    refine (has_any 0 4 (by omega) (by omega) _).mono ?_
    rintro e w6 ⟨rfl, hw⟩
    rw [hw, show OD.sub 4 0 = false from rfl]
    clear hw w6
    go_wp2_with fail
    refine (has_any 0 8 (by omega) (by omega) _).mono ?_
    rintro e w6 ⟨rfl, hw⟩
    rw [hw, show OD.sub 8 0 = false from rfl]
    clear hw w6
    go_wp2_with fail
    refine (has_any 0 16 (by omega) (by omega) _).mono ?_
    rintro e w6 ⟨rfl, hw⟩
    rw [hw, show OD.sub 16 0 = false from rfl]
    clear hw w6
    go_upto_region 13 with fail
    obtain ⟨m0, m1, m2, m3, m4, m5, m6, m7, m8⟩ := cells9 (unhide HI3).b2
    have fm : ∀ i, w3.frozen? ⟨w.heap.size, i, none⟩ = false := fun i => frozen_of_row _ _ _ _ _ (unhide HI3).b2
    go_wp2_with fail
    refine bodyPost_ret (results_cvF rfl _ _ _ _ _ _ _ rfl (set9_heap (unhide HI3).b2 _ _ _ _ _ _ _ _ _) Tryz.underlying27 rfl (by kernel_rfl)) rfl ?_
    exact op_done (o := ⟨N, [], 0, zeroD, [], 0⟩) (unhide HI3) rfl rfl rfl rfl (⟨by have := unhide HN5; show N < 256; omega, Nat.zero_le _, by show InR 0; unfold InR; omega, by show InR 0; unfold InR; omega⟩) (zero_at _ _) (FragAt.nil _ _) (by show zeroD.parts ≤ 1000000 ∧ zeroD.deep ≤ 1000; decide) (by have e := unhide HHN; have h := unhide HT1; subst e; exact read_0 h)
  · have HOF : Hid (Calls Tryz.prog 24 #[.int .u8 ((N : Nat) : Int)] w3 fun e w' => e = .returned (.int .u8 24) ∧ w' = w3) := by have h := unhide HOF0; rw [show OD.has N = 24 by rw [hN]; rfl] at h; exact h
    have HHN := hide hN
    clear hN HOF0
    go_wp2_with fail
    refine (unhide HOF).mono ?_
    rintro e w6 ⟨rfl, hw⟩
    rw [hw]
    clear hw w6
    go_wp2_with fail
    refine (has_any 24 1 (by omega) (by omega) _).mono ?_
    rintro e w6 ⟨rfl, hw⟩
    rw [hw, show OD.sub 1 24 = false from rfl]
    clear hw w6
    go_wp2_with fail
    refine (has_any 24 2 (by omega) (by omega) _).mono ?_
    rintro e w6 ⟨rfl, hw⟩
    rw [hw, show OD.sub 2 24 = false from rfl]
    clear hw w6
    go_wp2_with fail
    refine (has_any 24 4 (by omega) (by omega) _).mono ?_
    rintro e w6 ⟨rfl, hw⟩
    rw [hw, show OD.sub 4 24 = false from rfl]
    clear hw w6
    go_wp2_with fail
    refine (has_any 24 8 (by omega) (by omega) _).mono ?_
    rintro e w6 ⟨rfl, hw⟩
    rw [hw, show OD.sub 8 24 = true from rfl]
    clear hw w6
    go_wp2_with fail
    refine (oTakeFrag_any _ _ _ _ _ (unhide HI3).rd).mono ?_
    rintro e w4 ⟨l, fa, fn, fc, b2, s2, rfl, hfa, hR, hU, ht⟩
    have HJ := hide ((unhide HI3).but hU hR)
    have HT2 := hide ht
    have HI4 : Hid (OpS b w g w.heap.size w2.heap.size #[.int .u8 ((N : Nat) : Int), .string ⟨#[]⟩, .int .i64 0, .int .u8 0, .int .i64 0, .string ⟨#[]⟩, .slice none 0 0, .slice fa fn fc, .int .i64 0] b2 s2 (w4.setCell ⟨w2.heap.size, 7, none⟩ (.slice fa fn fc))) := ((unhide HJ).set 7 _)
    have HF4 : Hid (FragAt (fun k => w2.heap.size < k) (w4.setCell ⟨w2.heap.size, 7, none⟩ (.slice fa fn fc)) l (.slice fa fn fc)) := (((hfa.wider fun k hk => Nat.lt_of_lt_of_le (Array.getElem?_eq_some_iff.1 (unhide HI3).b3).1 hk) : FragAt (fun k => w2.heap.size < k) w4 l _).set 7 _)
    clear hfa
    clear hR hU ht c0 c1 c2 c3 c4 c5 c6 c7 c8 fz HI3
    obtain ⟨⟨c0, c1, c2, c3, c4, c5, c6, c7, c8⟩, fz⟩ := (unhide HJ).cells
    have f7 := fz 7
    clear HJ
    obtain ⟨x4, hx4⟩ : ∃ x4, x4 = (w4.setCell ⟨w2.heap.size, 7, none⟩ (.slice fa fn fc)) := ⟨_, rfl⟩
    rw [← hx4] at HI4 HF4
    have HX := hide hx4
    clear hx4
    go_upto_region 11 with fail
    rw [← unhide HX]
    clear HX c0 c1 c2 c3 c4 c5 c6 c7 c8 fz f7
    obtain ⟨⟨c0, c1, c2, c3, c4, c5, c6, c7, c8⟩, fz⟩ := (unhide HI4).cells
    go_wp2_with fail
    refine (has_any 24 16 (by omega) (by omega) _).mono ?_
    rintro e w6 ⟨rfl, hw⟩
    rw [hw, show OD.sub 16 24 = true from rfl]
    clear hw w6
    go_wp2_with fail
    refine (oNumber_any _ _ 400 (by omega) (by omega) _ _ _ (unhide HI4).rd).mono ?_
    rintro e w5 ⟨q, b3, s3, rfl, hq4, hR, hU, ht⟩
    have HJ := hide ((unhide HI4).but hU hR)
    have HT3 := hide ht
    have HI5 : Hid (OpS b w g w.heap.size w2.heap.size #[.int .u8 ((N : Nat) : Int), .string ⟨#[]⟩, .int .i64 0, .int .u8 0, .int .i64 0, .string ⟨#[]⟩, .slice none 0 0, .slice fa fn fc, .int .i64 q] b3 s3 (w5.setCell ⟨w2.heap.size, 8, none⟩ (.int .i64 q))) := ((unhide HJ).set 8 _)
    have HQ4 : Hid (0 ≤ q ∧ q ≤ 400) := hq4
    have HF5 : Hid (FragAt (fun k => w2.heap.size < k) (w5.setCell ⟨w2.heap.size, 8, none⟩ (.int .i64 q)) l (.slice fa fn fc)) := (((unhide HF4).butF hU (by have := (unhide HJ).l2; have := (unhide HJ).l3; have := (unhide HJ).lg; omega)).set 8 _)
    clear hR hU ht c0 c1 c2 c3 c4 c5 c6 c7 c8 fz HI4 HF4 hq4
    obtain ⟨⟨c0, c1, c2, c3, c4, c5, c6, c7, c8⟩, fz⟩ := (unhide HJ).cells
    have f8 := fz 8
    clear HJ
    obtain ⟨x5, hx5⟩ : ∃ x5, x5 = (w5.setCell ⟨w2.heap.size, 8, none⟩ (.int .i64 q)) := ⟨_, rfl⟩
    rw [← hx5] at HI5 HF5
    have HX := hide hx5
    clear hx5
    go_upto_region 13 with fail
    rw [← unhide HX]
    clear HX c0 c1 c2 c3 c4 c5 c6 c7 c8 fz f8
    obtain ⟨⟨c0, c1, c2, c3, c4, c5, c6, c7, c8⟩, fz⟩ := (unhide HI5).cells
    obtain ⟨m0, m1, m2, m3, m4, m5, m6, m7, m8⟩ := cells9 (unhide HI5).b2
    have fm : ∀ i, x5.frozen? ⟨w.heap.size, i, none⟩ = false := fun i => frozen_of_row _ _ _ _ _ (unhide HI5).b2
    go_wp2_with fail
    refine bodyPost_ret (results_cvF rfl _ _ _ _ _ _ _ rfl (set9_heap (unhide HI5).b2 _ _ _ _ _ _ _ _ _) Tryz.underlying27 rfl (by kernel_rfl)) rfl ?_
    exact op_done (o := ⟨N, [], 0, zeroD, l, q⟩) (unhide HI5) rfl rfl rfl rfl (⟨by have := unhide HN5; show N < 256; omega, Nat.zero_le _, by show InR 0; unfold InR; omega, by have := unhide HQ4; show InR q; unfold InR; omega⟩) (zero_at _ _) (unhide HF5) (by show zeroD.parts ≤ 1000000 ∧ zeroD.deep ≤ 1000; decide) (read_1 (unhide HHN) (unhide HT1) (unhide HT2) (unhide HT3))
  · have HOF : Hid (Calls Tryz.prog 24 #[.int .u8 ((N : Nat) : Int)] w3 fun e w' => e = .returned (.int .u8 1) ∧ w' = w3) := by have h := unhide HOF0; rw [show OD.has N = 1 by rcases hN with h | h <;> rw [h] <;> rfl] at h; exact h
    have HHN := hide hN
    clear hN HOF0
    go_wp2_with fail
    refine (unhide HOF).mono ?_
    rintro e w6 ⟨rfl, hw⟩
    rw [hw]
    clear hw w6
    go_wp2_with fail
    refine (has_any 1 1 (by omega) (by omega) _).mono ?_
    rintro e w6 ⟨rfl, hw⟩
    rw [hw, show OD.sub 1 1 = true from rfl]
    clear hw w6
    go_wp2_with fail
    refine (oTakeText_any _ _ _ _ _ (unhide HI3).rd).mono ?_
    rintro e w4 ⟨s, b2, s2, rfl, hs4, hR, hU, ht⟩
    have HJ := hide ((unhide HI3).but hU hR)
    have HT2 := hide ht
    have HI4 : Hid (OpS b w g w.heap.size w2.heap.size #[.int .u8 ((N : Nat) : Int), .string ⟨s.toArray⟩, .int .i64 0, .int .u8 0, .int .i64 0, .string ⟨#[]⟩, .slice none 0 0, .slice none 0 0, .int .i64 0] b2 s2 (w4.setCell ⟨w2.heap.size, 1, none⟩ (.string ⟨s.toArray⟩))) := ((unhide HJ).set 1 _)
    have HS4 := hide hs4
    clear hR hU ht c0 c1 c2 c3 c4 c5 c6 c7 c8 fz HI3 hs4
    obtain ⟨⟨c0, c1, c2, c3, c4, c5, c6, c7, c8⟩, fz⟩ := (unhide HJ).cells
    have f1 := fz 1
    clear HJ
    obtain ⟨x4, hx4⟩ : ∃ x4, x4 = (w4.setCell ⟨w2.heap.size, 1, none⟩ (.string ⟨s.toArray⟩)) := ⟨_, rfl⟩
    rw [← hx4] at HI4
    have HX := hide hx4
    clear hx4
    go_upto_region 5 with fail
    rw [← unhide HX]
    clear HX c0 c1 c2 c3 c4 c5 c6 c7 c8 fz f1
    obtain ⟨⟨c0, c1, c2, c3, c4, c5, c6, c7, c8⟩, fz⟩ := (unhide HI4).cells
    go_wp2_with fail
    refine (has_any 1 2 (by omega) (by omega) _).mono ?_
    rintro e w6 ⟨rfl, hw⟩
    rw [hw, show OD.sub 2 1 = false from rfl]
    clear hw w6
    go_wp2_with fail
    refine (has_any 1 4 (by omega) (by omega) _).mono ?_
    rintro e w6 ⟨rfl, hw⟩
    rw [hw, show OD.sub 4 1 = false from rfl]
    clear hw w6
    go_wp2_with fail
    refine (has_any 1 8 (by omega) (by omega) _).mono ?_
    rintro e w6 ⟨rfl, hw⟩
    rw [hw, show OD.sub 8 1 = false from rfl]
    clear hw w6
    go_wp2_with fail
    refine (has_any 1 16 (by omega) (by omega) _).mono ?_
    rintro e w6 ⟨rfl, hw⟩
    rw [hw, show OD.sub 16 1 = false from rfl]
    clear hw w6
    go_upto_region 13 with fail
    obtain ⟨m0, m1, m2, m3, m4, m5, m6, m7, m8⟩ := cells9 (unhide HI4).b2
    have fm : ∀ i, x4.frozen? ⟨w.heap.size, i, none⟩ = false := fun i => frozen_of_row _ _ _ _ _ (unhide HI4).b2
    go_wp2_with fail
    refine bodyPost_ret (results_cvF rfl _ _ _ _ _ _ _ rfl (set9_heap (unhide HI4).b2 _ _ _ _ _ _ _ _ _) Tryz.underlying27 rfl (by kernel_rfl)) rfl ?_
    exact op_done (o := ⟨N, s, 0, zeroD, [], 0⟩) (unhide HI4) rfl rfl rfl rfl (⟨by have := unhide HN5; show N < 256; omega, by have := unhide HS4; unfold maxLen; show s.length ≤ _; omega, by show InR 0; unfold InR; omega, by show InR 0; unfold InR; omega⟩) (zero_at _ _) (FragAt.nil _ _) (by show zeroD.parts ≤ 1000000 ∧ zeroD.deep ≤ 1000; decide) (read_2 (unhide HHN) (unhide HT1) (unhide HT2))
  · have HOF : Hid (Calls Tryz.prog 24 #[.int .u8 ((N : Nat) : Int)] w3 fun e w' => e = .returned (.int .u8 15) ∧ w' = w3) := by have h := unhide HOF0; rw [show OD.has N = 15 by rw [hN]; rfl] at h; exact h
    have HHN := hide hN
    clear hN HOF0
    go_wp2_with fail
    refine (unhide HOF).mono ?_
    rintro e w6 ⟨rfl, hw⟩
    rw [hw]
    clear hw w6
    go_wp2_with fail
    refine (has_any 15 1 (by omega) (by omega) _).mono ?_
    rintro e w6 ⟨rfl, hw⟩
    rw [hw, show OD.sub 1 15 = true from rfl]
    clear hw w6
    go_wp2_with fail
    refine (oTakeText_any _ _ _ _ _ (unhide HI3).rd).mono ?_
    rintro e w4 ⟨s, b2, s2, rfl, hs4, hR, hU, ht⟩
    have HJ := hide ((unhide HI3).but hU hR)
    have HT2 := hide ht
    have HI4 : Hid (OpS b w g w.heap.size w2.heap.size #[.int .u8 ((N : Nat) : Int), .string ⟨s.toArray⟩, .int .i64 0, .int .u8 0, .int .i64 0, .string ⟨#[]⟩, .slice none 0 0, .slice none 0 0, .int .i64 0] b2 s2 (w4.setCell ⟨w2.heap.size, 1, none⟩ (.string ⟨s.toArray⟩))) := ((unhide HJ).set 1 _)
    have HS4 := hide hs4
    clear hR hU ht c0 c1 c2 c3 c4 c5 c6 c7 c8 fz HI3 hs4
    obtain ⟨⟨c0, c1, c2, c3, c4, c5, c6, c7, c8⟩, fz⟩ := (unhide HJ).cells
    have f1 := fz 1
    clear HJ
    obtain ⟨x4, hx4⟩ : ∃ x4, x4 = (w4.setCell ⟨w2.heap.size, 1, none⟩ (.string ⟨s.toArray⟩)) := ⟨_, rfl⟩
    rw [← hx4] at HI4
    have HX := hide hx4
    clear hx4
    go_upto_region 5 with fail
    rw [← unhide HX]
    clear HX c0 c1 c2 c3 c4 c5 c6 c7 c8 fz f1
    obtain ⟨⟨c0, c1, c2, c3, c4, c5, c6, c7, c8⟩, fz⟩ := (unhide HI4).cells
    go_wp2_with fail
    refine (has_any 15 2 (by omega) (by omega) _).mono ?_
    rintro e w6 ⟨rfl, hw⟩
    rw [hw, show OD.sub 2 15 = true from rfl]
    clear hw w6
    go_wp2_with fail
    refine (oNumber_any _ _ 9223372036854775807 (by omega) (by omega) _ _ _ (unhide HI4).rd).mono ?_
    rintro e w5 ⟨k, b3, s3, rfl, hk4, hR, hU, ht⟩
    have HJ := hide ((unhide HI4).but hU hR)
    have HT3 := hide ht
    have HI5 : Hid (OpS b w g w.heap.size w2.heap.size #[.int .u8 ((N : Nat) : Int), .string ⟨s.toArray⟩, .int .i64 k, .int .u8 0, .int .i64 0, .string ⟨#[]⟩, .slice none 0 0, .slice none 0 0, .int .i64 0] b3 s3 (w5.setCell ⟨w2.heap.size, 2, none⟩ (.int .i64 k))) := ((unhide HJ).set 2 _)
    have HK4 : Hid (0 ≤ k ∧ k ≤ 9223372036854775807) := hk4
    clear hR hU ht c0 c1 c2 c3 c4 c5 c6 c7 c8 fz HI4 hk4
    obtain ⟨⟨c0, c1, c2, c3, c4, c5, c6, c7, c8⟩, fz⟩ := (unhide HJ).cells
    have f2 := fz 2
    clear HJ
    obtain ⟨x5, hx5⟩ : ∃ x5, x5 = (w5.setCell ⟨w2.heap.size, 2, none⟩ (.int .i64 k)) := ⟨_, rfl⟩
    rw [← hx5] at HI5
    have HX := hide hx5
    clear hx5
    go_upto_region 7 with fail
    rw [← unhide HX]
    clear HX c0 c1 c2 c3 c4 c5 c6 c7 c8 fz f2
    obtain ⟨⟨c0, c1, c2, c3, c4, c5, c6, c7, c8⟩, fz⟩ := (unhide HI5).cells
    go_wp2_with fail
    refine (has_any 15 4 (by omega) (by omega) _).mono ?_
    rintro e w6 ⟨rfl, hw⟩
    rw [hw, show OD.sub 4 15 = true from rfl]
    clear hw w6
    go_wp2_with fail
    refine (oTakeVal_any _ _ _ _ _ (unhide HI5).rd).mono ?_
    rintro e w6 ⟨v, K, vm, vc, VN, vz, va, b4, s4, rfl, ⟨hva, hvr⟩, hR, hU, ht⟩
    have HJ := hide ((unhide HI5).but hU hR)
    have HT4 := hide ht
    have HI6 : Hid (OpS b w g w.heap.size w2.heap.size #[.int .u8 ((N : Nat) : Int), .string ⟨s.toArray⟩, .int .i64 k, .int .u8 ((K : Nat) : Int), .int .i64 VN, .string vz, .slice va vm vc, .slice none 0 0, .int .i64 0] b4 s4 ((((w6.setCell ⟨w2.heap.size, 3, none⟩ (.int .u8 ((K : Nat) : Int))).setCell ⟨w2.heap.size, 4, none⟩ (.int .i64 VN)).setCell ⟨w2.heap.size, 5, none⟩ (.string vz)).setCell ⟨w2.heap.size, 6, none⟩ (.slice va vm vc))) := (((((unhide HJ).set 3 _).set 4 _).set 5 _).set 6 _)
    have HV6 : Hid (v.At (fun k => w2.heap.size < k) ((((w6.setCell ⟨w2.heap.size, 3, none⟩ (.int .u8 ((K : Nat) : Int))).setCell ⟨w2.heap.size, 4, none⟩ (.int .i64 VN)).setCell ⟨w2.heap.size, 5, none⟩ (.string vz)).setCell ⟨w2.heap.size, 6, none⟩ (.slice va vm vc)) (.agg #[.int .u8 ((K : Nat) : Int), .int .i64 VN, .string vz, .slice va vm vc])) := ((((((hva.wider fun k hk => Nat.lt_of_lt_of_le (Array.getElem?_eq_some_iff.1 (unhide HI5).b3).1 hk) : v.At (fun k => w2.heap.size < k) w6 _).set 3 _).set 4 _).set 5 _).set 6 _)
    have HVR := hide hvr
    clear hva hvr
    clear hR hU ht c0 c1 c2 c3 c4 c5 c6 c7 c8 fz HI5
    obtain ⟨⟨c0, c1, c2, c3, c4, c5, c6, c7, c8⟩, fz⟩ := (unhide HJ).cells
    have f3 := fz 3
    have f4 := fz 4
    have f5 := fz 5
    have f6 := fz 6
    clear HJ
    obtain ⟨x6, hx6⟩ : ∃ x6, x6 = ((((w6.setCell ⟨w2.heap.size, 3, none⟩ (.int .u8 ((K : Nat) : Int))).setCell ⟨w2.heap.size, 4, none⟩ (.int .i64 VN)).setCell ⟨w2.heap.size, 5, none⟩ (.string vz)).setCell ⟨w2.heap.size, 6, none⟩ (.slice va vm vc)) := ⟨_, rfl⟩
    rw [← hx6] at HI6 HV6
    have HX := hide hx6
    clear hx6
    go_upto_region 9 with fail
    rw [← unhide HX]
    clear HX c0 c1 c2 c3 c4 c5 c6 c7 c8 fz f3 f4 f5 f6
    obtain ⟨⟨c0, c1, c2, c3, c4, c5, c6, c7, c8⟩, fz⟩ := (unhide HI6).cells
    go_wp2_with fail
    refine (has_any 15 8 (by omega) (by omega) _).mono ?_
    rintro e w6 ⟨rfl, hw⟩
    rw [hw, show OD.sub 8 15 = true from rfl]
    clear hw w6
    go_wp2_with fail
    refine (oTakeFrag_any _ _ _ _ _ (unhide HI6).rd).mono ?_
    rintro e w7 ⟨l, fa, fn, fc, b5, s5, rfl, hfa, hR, hU, ht⟩
    have HJ := hide ((unhide HI6).but hU hR)
    have HT5 := hide ht
    have HI7 : Hid (OpS b w g w.heap.size w2.heap.size #[.int .u8 ((N : Nat) : Int), .string ⟨s.toArray⟩, .int .i64 k, .int .u8 ((K : Nat) : Int), .int .i64 VN, .string vz, .slice va vm vc, .slice fa fn fc, .int .i64 0] b5 s5 (w7.setCell ⟨w2.heap.size, 7, none⟩ (.slice fa fn fc))) := ((unhide HJ).set 7 _)
    have HV7 : Hid (v.At (fun k => w2.heap.size < k) (w7.setCell ⟨w2.heap.size, 7, none⟩ (.slice fa fn fc)) (.agg #[.int .u8 ((K : Nat) : Int), .int .i64 VN, .string vz, .slice va vm vc])) := (((unhide HV6).butF hU (by have := (unhide HJ).l2; have := (unhide HJ).l3; have := (unhide HJ).lg; omega)).set 7 _)
    have HF7 : Hid (FragAt (fun k => w2.heap.size < k) (w7.setCell ⟨w2.heap.size, 7, none⟩ (.slice fa fn fc)) l (.slice fa fn fc)) := (((hfa.wider fun k hk => Nat.lt_of_lt_of_le (Array.getElem?_eq_some_iff.1 (unhide HI6).b3).1 hk) : FragAt (fun k => w2.heap.size < k) w7 l _).set 7 _)
    clear hfa
    clear hR hU ht c0 c1 c2 c3 c4 c5 c6 c7 c8 fz HI6 HV6
    obtain ⟨⟨c0, c1, c2, c3, c4, c5, c6, c7, c8⟩, fz⟩ := (unhide HJ).cells
    have f7 := fz 7
    clear HJ
    obtain ⟨x7, hx7⟩ : ∃ x7, x7 = (w7.setCell ⟨w2.heap.size, 7, none⟩ (.slice fa fn fc)) := ⟨_, rfl⟩
    rw [← hx7] at HI7 HV7 HF7
    have HX := hide hx7
    clear hx7
    go_upto_region 11 with fail
    rw [← unhide HX]
    clear HX c0 c1 c2 c3 c4 c5 c6 c7 c8 fz f7
    obtain ⟨⟨c0, c1, c2, c3, c4, c5, c6, c7, c8⟩, fz⟩ := (unhide HI7).cells
    go_wp2_with fail
    refine (has_any 15 16 (by omega) (by omega) _).mono ?_
    rintro e w6 ⟨rfl, hw⟩
    rw [hw, show OD.sub 16 15 = false from rfl]
    clear hw w6
    go_upto_region 13 with fail
    obtain ⟨m0, m1, m2, m3, m4, m5, m6, m7, m8⟩ := cells9 (unhide HI7).b2
    have fm : ∀ i, x7.frozen? ⟨w.heap.size, i, none⟩ = false := fun i => frozen_of_row _ _ _ _ _ (unhide HI7).b2
    go_wp2_with fail
    refine bodyPost_ret (results_cvF rfl _ _ _ _ _ _ _ rfl (set9_heap (unhide HI7).b2 _ _ _ _ _ _ _ _ _) Tryz.underlying27 rfl (by kernel_rfl)) rfl ?_
    exact op_done (o := ⟨N, s, k, v, l, 0⟩) (unhide HI7) rfl rfl rfl rfl (⟨by have := unhide HN5; show N < 256; omega, by have := unhide HS4; unfold maxLen; show s.length ≤ _; omega, by have := unhide HK4; show InR k; unfold InR; omega, by show InR 0; unfold InR; omega⟩) (unhide HV7) (unhide HF7) (by have h := unhide HVR; unfold VD.right at h; simp only [Bool.and_eq_true, decide_eq_true_eq] at h; show v.parts ≤ 1000000 ∧ v.deep ≤ 1000; omega) (read_3 (unhide HHN) (unhide HT1) (unhide HT2) (unhide HT3) (unhide HT4) (unhide HT5))
  · have HOF : Hid (Calls Tryz.prog 24 #[.int .u8 ((N : Nat) : Int)] w3 fun e w' => e = .returned (.int .u8 3) ∧ w' = w3) := by have h := unhide HOF0; rw [show OD.has N = 3 by rw [hN]; rfl] at h; exact h
    have HHN := hide hN
    clear hN HOF0
    go_wp2_with fail
    refine (unhide HOF).mono ?_
    rintro e w6 ⟨rfl, hw⟩
    rw [hw]
    clear hw w6
    go_wp2_with fail
    refine (has_any 3 1 (by omega) (by omega) _).mono ?_
    rintro e w6 ⟨rfl, hw⟩
    rw [hw, show OD.sub 1 3 = true from rfl]
    clear hw w6
    go_wp2_with fail
    refine (oTakeText_any _ _ _ _ _ (unhide HI3).rd).mono ?_
    rintro e w4 ⟨s, b2, s2, rfl, hs4, hR, hU, ht⟩
    have HJ := hide ((unhide HI3).but hU hR)
    have HT2 := hide ht
    have HI4 : Hid (OpS b w g w.heap.size w2.heap.size #[.int .u8 ((N : Nat) : Int), .string ⟨s.toArray⟩, .int .i64 0, .int .u8 0, .int .i64 0, .string ⟨#[]⟩, .slice none 0 0, .slice none 0 0, .int .i64 0] b2 s2 (w4.setCell ⟨w2.heap.size, 1, none⟩ (.string ⟨s.toArray⟩))) := ((unhide HJ).set 1 _)
    have HS4 := hide hs4
    clear hR hU ht c0 c1 c2 c3 c4 c5 c6 c7 c8 fz HI3 hs4
    obtain ⟨⟨c0, c1, c2, c3, c4, c5, c6, c7, c8⟩, fz⟩ := (unhide HJ).cells
    have f1 := fz 1
    clear HJ
    obtain ⟨x4, hx4⟩ : ∃ x4, x4 = (w4.setCell ⟨w2.heap.size, 1, none⟩ (.string ⟨s.toArray⟩)) := ⟨_, rfl⟩
    rw [← hx4] at HI4
    have HX := hide hx4
    clear hx4
    go_upto_region 5 with fail
    rw [← unhide HX]
    clear HX c0 c1 c2 c3 c4 c5 c6 c7 c8 fz f1
    obtain ⟨⟨c0, c1, c2, c3, c4, c5, c6, c7, c8⟩, fz⟩ := (unhide HI4).cells
    go_wp2_with fail
    refine (has_any 3 2 (by omega) (by omega) _).mono ?_
    rintro e w6 ⟨rfl, hw⟩
    rw [hw, show OD.sub 2 3 = true from rfl]
    clear hw w6
    go_wp2_with fail
    refine (oNumber_any _ _ 9223372036854775807 (by omega) (by omega) _ _ _ (unhide HI4).rd).mono ?_
    rintro e w5 ⟨k, b3, s3, rfl, hk4, hR, hU, ht⟩
    have HJ := hide ((unhide HI4).but hU hR)
    have HT3 := hide ht
    have HI5 : Hid (OpS b w g w.heap.size w2.heap.size #[.int .u8 ((N : Nat) : Int), .string ⟨s.toArray⟩, .int .i64 k, .int .u8 0, .int .i64 0, .string ⟨#[]⟩, .slice none 0 0, .slice none 0 0, .int .i64 0] b3 s3 (w5.setCell ⟨w2.heap.size, 2, none⟩ (.int .i64 k))) := ((unhide HJ).set 2 _)
    have HK4 : Hid (0 ≤ k ∧ k ≤ 9223372036854775807) := hk4
    clear hR hU ht c0 c1 c2 c3 c4 c5 c6 c7 c8 fz HI4 hk4
    obtain ⟨⟨c0, c1, c2, c3, c4, c5, c6, c7, c8⟩, fz⟩ := (unhide HJ).cells
    have f2 := fz 2
    clear HJ
    obtain ⟨x5, hx5⟩ : ∃ x5, x5 = (w5.setCell ⟨w2.heap.size, 2, none⟩ (.int .i64 k)) := ⟨_, rfl⟩
    rw [← hx5] at HI5
    have HX := hide hx5
    clear hx5
    go_upto_region 7 with fail
    rw [← unhide HX]
    clear HX c0 c1 c2 c3 c4 c5 c6 c7 c8 fz f2
    obtain ⟨⟨c0, c1, c2, c3, c4, c5, c6, c7, c8⟩, fz⟩ := (unhide HI5).cells
    go_wp2_with fail
    refine (has_any 3 4 (by omega) (by omega) _).mono ?_
    rintro e w6 ⟨rfl, hw⟩
    rw [hw, show OD.sub 4 3 = false from rfl]
    clear hw w6
    go_wp2_with fail
    refine (has_any 3 8 (by omega) (by omega) _).mono ?_
    rintro e w6 ⟨rfl, hw⟩
    rw [hw, show OD.sub 8 3 = false from rfl]
    clear hw w6
    go_wp2_with fail
    refine (has_any 3 16 (by omega) (by omega) _).mono ?_
    rintro e w6 ⟨rfl, hw⟩
    rw [hw, show OD.sub 16 3 = false from rfl]
    clear hw w6
    go_upto_region 13 with fail
    obtain ⟨m0, m1, m2, m3, m4, m5, m6, m7, m8⟩ := cells9 (unhide HI5).b2
    have fm : ∀ i, x5.frozen? ⟨w.heap.size, i, none⟩ = false := fun i => frozen_of_row _ _ _ _ _ (unhide HI5).b2
    go_wp2_with fail
    refine bodyPost_ret (results_cvF rfl _ _ _ _ _ _ _ rfl (set9_heap (unhide HI5).b2 _ _ _ _ _ _ _ _ _) Tryz.underlying27 rfl (by kernel_rfl)) rfl ?_
    exact op_done (o := ⟨N, s, k, zeroD, [], 0⟩) (unhide HI5) rfl rfl rfl rfl (⟨by have := unhide HN5; show N < 256; omega, by have := unhide HS4; unfold maxLen; show s.length ≤ _; omega, by have := unhide HK4; show InR k; unfold InR; omega, by show InR 0; unfold InR; omega⟩) (zero_at _ _) (FragAt.nil _ _) (by show zeroD.parts ≤ 1000000 ∧ zeroD.deep ≤ 1000; decide) (read_4 (unhide HHN) (unhide HT1) (unhide HT2) (unhide HT3))

/-- The operation that is nothing. -/
def zeroO : OD := ⟨0, [], 0, zeroD, [], 0⟩
theorem zeroO_at (B : Nat → Prop) (W : World) : zeroO.At B W (.agg #[.int .u8 0, .string ⟨#[]⟩, .int .i64 0, .int .u8 0, .int .i64 0, .string ⟨#[]⟩, .slice none 0 0, .slice none 0 0, .int .i64 0]) := OD.Parts.at ⟨rfl, rfl, rfl, rfl, ⟨by show (0 : Nat) < 256; omega, Nat.zero_le _, by show InR 0; unfold InR; omega, by show InR 0; unfold InR; omega⟩, zero_at _ _, FragAt.nil _ _⟩
theorem zeroO_lt : zeroO.Lt := by show zeroD.parts ≤ 1000000 ∧ zeroD.deep ≤ 1000; decide
theorem results_ctO {P : Program} {fn : Func} {p u : Tmp} {ty : TypeId} (h : fn.results = #[.cell p ty, .tmp u]) (tmps : Array Value) (w : World) (g : Nat) (t : TypeId) (cs : Array Value) (fr : Nat × Nat) (d : TypeDesc)
    (hp : tmps.getD p undef = .pointer (some ⟨g, 0, none⟩)) (hg : w.heap[g]? = some (.cells cs t fr))
    (hu : P.underlying ty = some d) (hd : (match d with | .struct _ | .array _ _ => true | _ => false) = true) (hi : (P.info? ty).map (·.size) = some cs.size) :
    (results fn tmps).run P w = .ok (.tuple #[.agg cs, tmps.getD u undef]) w := by
  have hp' : tmps[p]?.getD undef = .pointer (some ⟨g, 0, none⟩) := by simpa using hp
  simp only [results, h]
  simp [Result.andThen, hp', asAddr, run_loadVar_row w g t ty cs fr d hg hu hd hi]
/-- What Parse tells. -/
def OParseM (w : World) (bs : List UInt8) (e : Ending) (W : World) : Prop := ∃ (o : OD) (u : Value) (er : Int), e = .returned (.tuple #[u, .int .i64 er]) ∧ o.At (fun k => w.heap.size ≤ k) W u ∧ o.Lt ∧ Below w.heap.size w W ∧ ((er = 0 ∧ o.right = true ∧ bs = o.bytes) ∨ (er = 30 ∧ NoOp bs ∧ o = zeroO))

set_option maxRecDepth 100000 in
set_option maxHeartbeats 4000000 in
theorem oParse_any (a : Option Addr) (n c : Nat) (bs : List UInt8) (w : World) (h : Bytes w (.slice a n c) bs) (hn : n ≤ 1048576) (hT : OTab w) : Calls Tryz.prog 15 #[.slice a n c] w (OParseM w bs) := by
  obtain ⟨W1, hW1⟩ : ∃ W1, W1 = w.alloc (.cells #[.int .u8 0, .string ⟨#[]⟩, .int .i64 0, .int .u8 0, .int .i64 0, .string ⟨#[]⟩, .slice none 0 0, .slice none 0 0, .int .i64 0] 27) := ⟨_, rfl⟩
  obtain ⟨W2, hW2⟩ : ∃ W2, W2 = W1.alloc (.cells #[.slice a n c, .bool false] 57) := ⟨_, rfl⟩
  have hb1 : Below w.heap.size w W1 := by rw [hW1]; exact (Below.refl _ w).alloc (Nat.le_refl _) _
  have hb12 : Below W1.heap.size W1 W2 := by rw [hW2]; exact (Below.refl _ _).alloc (Nat.le_refl _) _
  have hs1 : W1.heap.size = w.heap.size + 1 := by rw [hW1]; simp
  have hs2 : W2.heap.size = w.heap.size + 2 := by rw [hW2]; simp [hs1]
  have hr1 : W1.heap[w.heap.size]? = some (.cells #[.int .u8 0, .string ⟨#[]⟩, .int .i64 0, .int .u8 0, .int .i64 0, .string ⟨#[]⟩, .slice none 0 0, .slice none 0 0, .int .i64 0] 27 (0, 0)) := by rw [hW1]; exact heap_alloc_new _ _
  have hr2 : W2.heap[w.heap.size + 1]? = some (.cells #[.slice a n c, .bool false] 57 (0, 0)) := by rw [hW2, ← hs1]; exact heap_alloc_new _ _
  have hr12 := (hb12.block w.heap.size (by omega)).trans hr1
  have hb2 : Below w.heap.size w W2 := hb1.trans (hb12.mono hb1.size)
  have hlt0 : 0 < w.heap.size := World.block_lt_of_cell? _ _ (hT 0 (by omega))
  have HC := hide (oRead_any w (w.heap.size + 1) bs W2 ⟨hb2, by omega, a, n, c, hr2, h, hn⟩ hb2 (hT.later hb2) hlt0)
  have HTB : Hid (∀ X, Below w.heap.size w X → OTab X) := fun X hX => hT.later hX
  have HB2 := hide hb2
  have HR12 := hide hr12
  have HS1 := hide hs1
  have HS2 := hide hs2
  have HW1 := hide hW1
  have HW2 := hide hW2
  clear h hn hT hb1 hb12 hr1 hr2 hr12 hb2 hlt0 hs1 hs2 hW1 hW2
  go_enter Tryz.func15, Tryz.ntmps15
  go_upto_region 1 with fail
  rw [← unhide HW1]
  clear HW1
  go_upto_region 2 with fail
  rw [← unhide HW2, unhide HS1]
  clear HW2
  go_wp2_with fail
  refine (unhide HC).mono ?_
  rintro e w3 ⟨o, u, brk, bs', rfl, hAt, hlt, hR, hU, hok⟩
  obtain ⟨L, sz, t, K, N, z, va, m, cc, fa, fn, fc, q, rfl, hp⟩ := hAt.form
  unfold OD.form9
  obtain ⟨w4, hw4⟩ : ∃ w4, w4 = w3.alloc (.cells #[.int .u8 ((L : Nat) : Int), .string sz, .int .i64 t, .int .u8 ((K : Nat) : Int), .int .i64 N, .string z, .slice va m cc, .slice fa fn fc, .int .i64 q] 27) := ⟨_, rfl⟩
  have hb4 : Below w3.heap.size w3 w4 := by rw [hw4]; exact (Below.refl _ _).alloc (Nat.le_refl _) _
  have hr4 : w4.heap[w3.heap.size]? = some (.cells #[.int .u8 ((L : Nat) : Int), .string sz, .int .i64 t, .int .u8 ((K : Nat) : Int), .int .i64 N, .string z, .slice va m cc, .slice fa fn fc, .int .i64 q] 27 (0, 0)) := by rw [hw4]; exact heap_alloc_new _ _
  have hb3 : Below w.heap.size w w3 := hU.below (unhide HB2) (by omega)
  have hs3 := hU.size
  have hg2 : w4.heap[w.heap.size]? = some (.cells #[.int .u8 0, .string ⟨#[]⟩, .int .i64 0, .int .u8 0, .int .i64 0, .string ⟨#[]⟩, .slice none 0 0, .slice none 0 0, .int .i64 0] 27 (0, 0)) := by
    rw [hb4.block _ (by have := unhide HS2; omega), hU.block _ (by have := unhide HS2; omega) (by omega)]
    exact unhide HR12
  have hR4 := hR.later hb4
  obtain ⟨a', n', c', ⟨k0, k1, r0, r1⟩, hbl, -⟩ := hR4.cells
  obtain ⟨d0, d1, d2, d3, d4, d5, d6, d7, d8⟩ := cells9 hr4
  have HP4 : Hid (∀ X, Below w4.heap.size w4 X → OD.Parts (fun k => w.heap.size + 2 ≤ k) X o L sz t K N z va m cc fa fn fc q) := fun X hX => by
    have h := hp.later (hb4.trans (hX.mono hb4.size))
    exact ⟨h.wh, h.id, h.tk, h.qt, h.fits, h.value.wider fun k hk => by have := unhide HS2; omega, h.frag.wider fun k hk => by have := unhide HS2; omega⟩
  have HLT := hide hlt
  have HOK := hide hok
  have HBL := hide hbl
  have HB4 : Hid (Below w.heap.size w w4) := hb3.trans (hb4.mono hb3.size)
  have HG2 := hide hg2
  have HW4 := hide hw4
  have HKS : Hid (∀ X, Below w4.heap.size w4 X → X.cell? ⟨w3.heap.size, 0, none⟩ = some (.int .u8 ((L : Nat) : Int)) ∧ X.cell? ⟨w3.heap.size, 1, none⟩ = some (.string sz) ∧ X.cell? ⟨w3.heap.size, 2, none⟩ = some (.int .i64 t) ∧ X.cell? ⟨w3.heap.size, 3, none⟩ = some (.int .u8 ((K : Nat) : Int)) ∧ X.cell? ⟨w3.heap.size, 4, none⟩ = some (.int .i64 N) ∧ X.cell? ⟨w3.heap.size, 5, none⟩ = some (.string z) ∧ X.cell? ⟨w3.heap.size, 6, none⟩ = some (.slice va m cc) ∧ X.cell? ⟨w3.heap.size, 7, none⟩ = some (.slice fa fn fc) ∧ X.cell? ⟨w3.heap.size, 8, none⟩ = some (.int .i64 q)) := fun X hX => cells9 ((hX.block _ (Array.getElem?_eq_some_iff.1 hr4).1).trans hr4)
  have HNO : Hid (∀ X : World, Below w4.heap.size w4 X → (brk = true ∨ n' ≠ 0 ∨ o.right = false) → OParseM w bs (.returned (.tuple #[.agg #[.int .u8 0, .string ⟨#[]⟩, .int .i64 0, .int .u8 0, .int .i64 0, .string ⟨#[]⟩, .slice none 0 0, .slice none 0 0, .int .i64 0], .int .i64 30])) ((((((((((X.setCell ⟨w.heap.size, 0, none⟩ (.int .u8 0)).setCell ⟨w.heap.size, 1, none⟩ (.string ⟨#[]⟩)).setCell ⟨w.heap.size, 2, none⟩ (.int .i64 0)).setCell ⟨w.heap.size, 3, none⟩ (.int .u8 0)).setCell ⟨w.heap.size, 4, none⟩ (.int .i64 0)).setCell ⟨w.heap.size, 5, none⟩ (.string ⟨#[]⟩)).setCell ⟨w.heap.size, 6, none⟩ (.slice none 0 0)).setCell ⟨w.heap.size, 7, none⟩ (.slice none 0 0)).setCell ⟨w.heap.size, 8, none⟩ (.int .i64 0)))) := fun X hX hor => by
    refine ⟨zeroO, _, 30, rfl, zeroO_at _ _, zeroO_lt, ?_, .inr ⟨rfl, fun y hy e => ?_, rfl⟩⟩
    · have hbX := (unhide HB4).trans (hX.mono (unhide HB4).size)
      exact ((((((((hbX.setCell (p := ⟨w.heap.size, 0, none⟩) (Nat.le_refl _) _).setCell (p := ⟨w.heap.size, 1, none⟩) (Nat.le_refl _) _).setCell (p := ⟨w.heap.size, 2, none⟩) (Nat.le_refl _) _).setCell (p := ⟨w.heap.size, 3, none⟩) (Nat.le_refl _) _).setCell (p := ⟨w.heap.size, 4, none⟩) (Nat.le_refl _) _).setCell (p := ⟨w.heap.size, 5, none⟩) (Nat.le_refl _) _).setCell (p := ⟨w.heap.size, 6, none⟩) (Nat.le_refl _) _).setCell (p := ⟨w.heap.size, 7, none⟩) (Nat.le_refl _) _).setCell (p := ⟨w.heap.size, 8, none⟩) (Nat.le_refl _) _
    · obtain ⟨f1, f2, f3⟩ := (unhide HOK).full y [] hy (by rw [List.append_nil]; exact e)
      rcases hor with h | h | h
      · rw [f1] at h; cases h
      · have := unhide HBL; rw [f3] at this; simp at this; omega
      · rw [f2, hy.rt] at h; cases h
  clear hAt hlt hR hU hok hp hb4 hr4 hb3 hs3 hg2 hR4 hbl hw4 HR12 HB2 HC HS1
  go_upto_region 3 with fail
  rw [← unhide HW4]
  clear HW4
  cases brk with
  | true =>
    have HF := hide (unhide HNO _ (Below.refl _ _) (.inl rfl))
    clear HNO
    obtain ⟨m0, m1, m2, m3, m4, m5, m6, m7, m8⟩ := cells9 (unhide HG2)
    have fm : ∀ i, w4.frozen? ⟨w.heap.size, i, none⟩ = false := fun i => frozen_of_row _ _ _ _ _ (unhide HG2)
    go_wp2_with fail
    refine bodyPost_ret (results_ctO rfl _ _ _ _ _ _ _ rfl (set9_heap (unhide HG2) _ _ _ _ _ _ _ _ _) Tryz.underlying27 rfl (by kernel_rfl)) rfl ?_
    exact unhide HF
  | false =>
  by_cases hn0 : n' > 0
  · have g0 : ((n' : Nat) : Int) > 0 := by omega
    have HF := hide (unhide HNO _ (Below.refl _ _) (.inr (.inl (by omega))))
    clear HNO hn0
    obtain ⟨m0, m1, m2, m3, m4, m5, m6, m7, m8⟩ := cells9 (unhide HG2)
    have fm : ∀ i, w4.frozen? ⟨w.heap.size, i, none⟩ = false := fun i => frozen_of_row _ _ _ _ _ (unhide HG2)
    go_wp2_with fail
    refine bodyPost_ret (results_ctO rfl _ _ _ _ _ _ _ rfl (set9_heap (unhide HG2) _ _ _ _ _ _ _ _ _) Tryz.underlying27 rfl (by kernel_rfl)) rfl ?_
    exact unhide HF
  have g0 : ¬ ((n' : Nat) : Int) > 0 := by omega
  have HN0 : Hid (n' = 0) := by show _ = _; omega
  clear hn0
  go_wp2_with fail
  refine (oRight_any o _ _ w4 (unhide HP4 _ (Below.refl _ _)).at (unhide HLT) (unhide HTB _ (unhide HB4))).mono ?_
  rintro e w5 ⟨rfl, hb5⟩
  have HB5 := hide hb5
  have hg25 := (hb5.block _ (Array.getElem?_eq_some_iff.1 (unhide HG2)).1).trans (unhide HG2)
  have HG25 := hide hg25
  obtain ⟨m0, m1, m2, m3, m4, m5, m6, m7, m8⟩ := cells9 hg25
  have fm : ∀ i, w5.frozen? ⟨w.heap.size, i, none⟩ = false := fun i => frozen_of_row _ _ _ _ _ (unhide HG25)
  clear d0 d1 d2 d3 d4 d5 d6 d7 d8 k0 k1 r0 r1 hg25
  obtain ⟨d0, d1, d2, d3, d4, d5, d6, d7, d8⟩ := unhide HKS _ hb5
  clear hb5
  obtain ⟨rr, hrr⟩ : ∃ rr, rr = o.right := ⟨_, rfl⟩
  rw [← hrr]
  have HRR := hide hrr
  clear hrr
  cases rr with
  | false =>
    have HF := hide (unhide HNO _ (unhide HB5) (.inr (.inr (unhide HRR).symm)))
    clear HNO
    go_wp2_with fail
    refine bodyPost_ret (results_ctO rfl _ _ _ _ _ _ _ rfl (set9_heap (unhide HG25) _ _ _ _ _ _ _ _ _) Tryz.underlying27 rfl (by kernel_rfl)) rfl ?_
    exact unhide HF
  | true =>
    have HF : Hid (OParseM w bs (.returned (.tuple #[.agg #[.int .u8 ((L : Nat) : Int), .string sz, .int .i64 t, .int .u8 ((K : Nat) : Int), .int .i64 N, .string z, .slice va m cc, .slice fa fn fc, .int .i64 q], .int .i64 0])) ((((((((((w5.setCell ⟨w.heap.size, 0, none⟩ (.int .u8 ((L : Nat) : Int))).setCell ⟨w.heap.size, 1, none⟩ (.string sz)).setCell ⟨w.heap.size, 2, none⟩ (.int .i64 t)).setCell ⟨w.heap.size, 3, none⟩ (.int .u8 ((K : Nat) : Int))).setCell ⟨w.heap.size, 4, none⟩ (.int .i64 N)).setCell ⟨w.heap.size, 5, none⟩ (.string z)).setCell ⟨w.heap.size, 6, none⟩ (.slice va m cc)).setCell ⟨w.heap.size, 7, none⟩ (.slice fa fn fc)).setCell ⟨w.heap.size, 8, none⟩ (.int .i64 q)))) := by
      refine ⟨o, _, 0, rfl, ?_, unhide HLT, ?_, .inl ⟨rfl, (unhide HRR).symm, ?_⟩⟩
      · exact (unhide HP4 _ (unhide HB5)).at.kept (fun k hk _ => by
          have e := set9_other (W := w5) (k := k) (g := w.heap.size) (by omega) (.int .u8 ((L : Nat) : Int)) (.string sz) (.int .i64 t) (.int .u8 ((K : Nat) : Int)) (.int .i64 N) (.string z) (.slice va m cc) (.slice fa fn fc) (.int .i64 q)
          exact e) fun k hk _ => by omega
      · have hbX := (unhide HB4).trans ((unhide HB5).mono (unhide HB4).size)
        exact ((((((((hbX.setCell (p := ⟨w.heap.size, 0, none⟩) (Nat.le_refl _) _).setCell (p := ⟨w.heap.size, 1, none⟩) (Nat.le_refl _) _).setCell (p := ⟨w.heap.size, 2, none⟩) (Nat.le_refl _) _).setCell (p := ⟨w.heap.size, 3, none⟩) (Nat.le_refl _) _).setCell (p := ⟨w.heap.size, 4, none⟩) (Nat.le_refl _) _).setCell (p := ⟨w.heap.size, 5, none⟩) (Nat.le_refl _) _).setCell (p := ⟨w.heap.size, 6, none⟩) (Nat.le_refl _) _).setCell (p := ⟨w.heap.size, 7, none⟩) (Nat.le_refl _) _).setCell (p := ⟨w.heap.size, 8, none⟩) (Nat.le_refl _) _
      · have h1 := (unhide HOK).sound rfl
        have h2 : bs' = [] := List.eq_nil_of_length_eq_zero (by rw [unhide HBL, unhide HN0])
        rw [h2, List.append_nil] at h1
        exact h1
    clear HNO
    go_wp2_with fail
    refine bodyPost_ret (results_ctO rfl _ _ _ _ _ _ _ rfl (set9_heap (unhide HG25) _ _ _ _ _ _ _ _ _) Tryz.underlying27 rfl (by kernel_rfl)) rfl ?_
    exact unhide HF
end Go.Proofs.YtdlbpbglidhlfaaGreatDoor

namespace Go.Proofs.YtdlbpbglidhlfaaGreatDoor
open Go.RowKit

/-- But for the row r all that was there is as it was; the row goes on in its block, or in a new one. -/
structure GR (w : World) (r : Value) (w' : World) (r' : Value) : Prop where
  size : w.heap.size ≤ w'.heap.size
  block : ∀ k, k < w.heap.size → r.ownBlock ≠ some k → w'.heap[k]? = w.heap[k]?
  blk : r'.ownBlock = r.ownBlock ∨ ∃ k, r'.ownBlock = some k ∧ w.heap.size ≤ k
theorem GR.refl (w : World) (r : Value) : GR w r w r := ⟨Nat.le_refl _, fun _ _ _ => rfl, .inl rfl⟩
theorem GR.ne {w w' : World} {r r' : Value} (h : GR w r w' r') {k : Nat} (hk : k < w.heap.size) (hn : r.ownBlock ≠ some k) : r'.ownBlock ≠ some k := fun e => by
  rcases h.blk with e2 | ⟨k', e2, hle⟩
  · rw [e2] at e; exact hn e
  · rw [e2] at e; cases e; omega
theorem GR.trans {w w1 w2 : World} {r r1 r2 : Value} (h : GR w r w1 r1) (h' : GR w1 r1 w2 r2) : GR w r w2 r2 := by
  refine ⟨Nat.le_trans h.size h'.size, fun k hk hn => ?_, ?_⟩
  · rw [h'.block k (Nat.lt_of_lt_of_le hk h.size) (h.ne hk hn), h.block k hk hn]
  · rcases h'.blk with e | ⟨k, e, hle⟩
    · rw [e]; exact h.blk
    · exact .inr ⟨k, e, Nat.le_trans h.size hle⟩
theorem GR.later {w w1 w2 : World} {r r1 : Value} (h : GR w r w1 r1) (hb : Below w1.heap.size w1 w2) : GR w r w2 r1 :=
  ⟨Nat.le_trans h.size hb.size, fun k hk hn => (hb.block k (Nat.lt_of_lt_of_le hk h.size)).trans (h.block k hk hn), h.blk⟩
theorem GR.of {w w' : World} {r r' : Value} (r2 : w.grownBy w' r.ownBlock) (r3 : r'.ownBlock = r.ownBlock ∨ ∃ k, r'.ownBlock = some k ∧ w.heap.size ≤ k) : GR w r w' r' :=
  ⟨r2.size, fun k hk hn => r2.block k hk (fun e => hn e.symm), r3⟩
/-- A row that is put behind: what is told. -/
def PutM (w0 : World) (r : Value) (w : World) (cs : List UInt8) (e : Ending) (w' : World) : Prop := ∃ a n c, e = .returned (.slice a n c) ∧ Own w0 (.slice a n c) cs w' ∧ GR w r w' (.slice a n c)

theorem own_formS {w0 w : World} {r : Value} {bs : List UInt8} (h : Own w0 r bs w) : ∃ a c, r = .slice a bs.length c ∧ bs.length ≤ c := h.fresh.1.1.form

theorem numNilF_any (n : Int) (hn : InR n) (w : World) : Calls Tryz.prog 43 #[.slice none 0 0, .int .i64 n] w fun e w' => ∃ v, e = .returned v ∧ Own w v (numB n) w' :=
  (wNum_any _ [] n hn w ((Own.start w).fresh.1.1) (by simp)).mono fun e w' h => by simpa using h
theorem textNilF_any (s : List UInt8) (hs : s.length ≤ 1048576) (w : World) : Calls Tryz.prog 44 #[.slice none 0 0, .string ⟨s.toArray⟩] w fun e w' => ∃ v, e = .returned v ∧ Own w v (textB s) w' :=
  (wText_any _ [] s w ((Own.start w).fresh.1.1) (by simp) hs).mono fun e w' h => by simpa using h

set_option maxRecDepth 100000 in
set_option maxHeartbeats 1000000 in
theorem putNumber_any (w0 w : World) (r : Value) (pre : List UInt8) (n : Int) (hn : InR n) (hO : Own w0 r pre w) (hl : pre.length ≤ 1000000) : Calls Tryz.prog 115 #[r, .int .i64 n] w (PutM w0 r w (pre ++ numB n)) := by
  obtain ⟨ti, hti, hz0, hz1, hz2⟩ := infoByte
  have HO := hide hO
  have HC := hide (numNilF_any n hn)
  have HL : Hid (pre.length + (numB n).length ≤ 1000010) := by show _ ≤ _; have := numB_ten hn; omega
  obtain ⟨a, c, rfl, -⟩ := own_formS hO
  obtain ⟨m, hm⟩ : ∃ m, m = pre.length := ⟨_, rfl⟩
  rw [← hm] at HO ⊢
  clear hO hn hl hm
  go_enter Tryz.func115, Tryz.ntmps115
  go_wp2_with fail
  refine (unhide HC _).mono ?_
  rintro e w2 ⟨r2, rfl, hO2⟩
  have HO2 := hide ((unhide HO).later hO2.bb)
  have HG2 := hide ((GR.refl w (.slice a m c)).later hO2.bb)
  have HB2 := hide hO2.fresh.1.1
  clear hO2
  go_wp2_with (at_builtin; refine wpList_append_bytes _ rfl _ _ 28 rfl 5 ti (.int .u8 0) Tryz.underlying28 hti hz0 hz1 hz2 rfl _ pre rfl (unhide HO2).own _ (numB n) rfl (unhide HB2) (by have := unhide HL; omega) ?_)
  rintro v' w4 r1 r2 r3
  have hO4 := (unhide HO2).grown (cs := pre ++ numB n) (by simpa using r1) r2 r3
  have HG4 := hide ((unhide HG2).trans (GR.of r2 r3))
  obtain ⟨a4, c4, rfl, -⟩ := own_formS hO4
  have HO4 := hide hO4
  clear r1 r2 r3 hO4
  go_wp2_with fail
  go_ret
  exact ⟨a4, _, c4, rfl, unhide HO4, unhide HG4⟩

set_option maxRecDepth 100000 in
set_option maxHeartbeats 1000000 in
theorem putText_any (w0 w : World) (r : Value) (pre s : List UInt8) (hs : s.length ≤ 1000000) (hO : Own w0 r pre w) (hl : pre.length ≤ 1000000) : Calls Tryz.prog 116 #[r, .string ⟨s.toArray⟩] w (PutM w0 r w (pre ++ textB s)) := by
  obtain ⟨ti, hti, hz0, hz1, hz2⟩ := infoByte
  have HO := hide hO
  have HC := hide (textNilF_any s (by omega))
  have HL : Hid (pre.length + (textB s).length ≤ 3000010) := by show _ ≤ _; have := textB_le hs (by omega); omega
  obtain ⟨a, c, rfl, -⟩ := own_formS hO
  obtain ⟨m, hm⟩ : ∃ m, m = pre.length := ⟨_, rfl⟩
  rw [← hm] at HO ⊢
  generalize (⟨s.toArray⟩ : ByteArray) = z at *
  generalize textB s = sb at *
  clear hO hs hl hm
  go_enter Tryz.func116, Tryz.ntmps116
  go_wp2_with fail
  refine (unhide HC _).mono ?_
  rintro e w2 ⟨r2, rfl, hO2⟩
  have HO2 := hide ((unhide HO).later hO2.bb)
  have HG2 := hide ((GR.refl w (.slice a m c)).later hO2.bb)
  have HB2 := hide hO2.fresh.1.1
  clear hO2
  go_wp2_with (at_builtin; refine wpList_append_bytes _ rfl _ _ 28 rfl 5 ti (.int .u8 0) Tryz.underlying28 hti hz0 hz1 hz2 rfl _ pre rfl (unhide HO2).own _ sb rfl (unhide HB2) (by have := unhide HL; omega) ?_)
  rintro v' w4 r1 r2 r3
  have hO4 := (unhide HO2).grown (cs := pre ++ sb) (by simpa using r1) r2 r3
  have HG4 := hide ((unhide HG2).trans (GR.of r2 r3))
  obtain ⟨a4, c4, rfl, -⟩ := own_formS hO4
  have HO4 := hide hO4
  clear r1 r2 r3 hO4
  go_wp2_with fail
  go_ret
  exact ⟨a4, _, c4, rfl, unhide HO4, unhide HG4⟩

theorem flat_take_succ {α : Type} (f : α → List UInt8) {l : List α} {j : Nat} (h : j < l.length) : (l.take (j + 1)).flatMap f = (l.take j).flatMap f ++ f (l[j]'h) := by
  rw [List.take_succ_eq_append_getElem h, List.flatMap_append]
  simp
theorem flat_take_le {α : Type} (f : α → List UInt8) (l : List α) (j : Nat) : ((l.take j).flatMap f).length ≤ (l.flatMap f).length := by
  have : l.flatMap f = (l.take j).flatMap f ++ (l.drop j).flatMap f := by rw [← List.flatMap_append, List.take_append_drop]
  rw [this, List.length_append]
  omega

set_option maxRecDepth 100000 in
set_option maxHeartbeats 1000000 in
theorem putStrs_any (l : List (List UInt8)) (B : Nat → Prop) (w0 w : World) (r : Value) (pre : List UInt8) (n c : Nat) (a : Option Addr) (hn : n = l.length) (hn6 : n ≤ 1000000) (hS : StrsAt B w0 a l) (hO : Own w0 r pre w) (hl : pre.length + (numB ((l.length : Nat) : Int)).length + (l.flatMap textB).length ≤ 1000000) :
    Calls Tryz.prog 117 #[r, .slice a n c, .func (.func 116) #[] #[]] w (PutM w0 r w (pre ++ (numB ((l.length : Nat) : Int) ++ l.flatMap textB))) := by
  have HL : Hid (∀ j, (pre ++ numB ((n : Nat) : Int) ++ (l.take j).flatMap textB).length ≤ 1000000) := fun j => by
    have := flat_take_le textB l j
    rw [List.length_append, List.length_append, hn]
    omega
  have HNU := hide (putNumber_any w0 w r pre ((n : Nat) : Int) (by unfold InR; omega) hO (by omega))
  have HN := hide hn
  have HS := hide hS
  have HSL : Hid (∀ j (h : j < l.length), (l[j]'h).length ≤ 1000000) := fun j h => by
    have h1 := flat_take_succ textB h
    have h2 := flat_take_le textB l (j + 1)
    rw [h1, List.length_append, textB, List.length_append] at h2
    omega
  have HCS : Hid (pre ++ (numB ((l.length : Nat) : Int) ++ l.flatMap textB) = pre ++ numB ((n : Nat) : Int) ++ (l.take n).flatMap textB) := by show _ = _; rw [hn, List.take_length, List.append_assoc]
  obtain ⟨ra, rc, rfl, -⟩ := own_formS hO
  obtain ⟨m, hm⟩ : ∃ m, m = pre.length := ⟨_, rfl⟩
  rw [← hm] at HNU ⊢
  clear hn hS hO hl hm
  go_enter Tryz.func117, Tryz.ntmps117
  go_wp2_with fail
  refine (unhide HNU).mono ?_
  rintro e w2 ⟨a2, n2, c2, rfl, hO2, hG2⟩
  have HO2 := hide hO2
  have HG2 := hide hG2
  clear hO2 hG2
  go_wp2_with fail
  go_loopw [0, 15] (fun v k W => ∃ (j : Nat) (a3 : Option Addr) (n3 c3 : Nat), j ≤ n ∧ k = .int .i64 ((j : Nat) : Int) ∧ v = .slice a3 n3 c3 ∧ Own w0 (.slice a3 n3 c3) (pre ++ numB ((n : Nat) : Int) ++ (l.take j).flatMap textB) W ∧ GR w (.slice ra m rc) W (.slice a3 n3 c3)) (fun _ k _ => n - (intOf k).toNat)
  case atStart => exact ⟨0, a2, n2, c2, by omega, rfl, rfl, by simpa using unhide HO2, unhide HG2⟩
  case round =>
    obtain ⟨j, a3, n3, c3, hj, rfl, rfl, hO3, hG3⟩ := hrel
    have HO3 := hide hO3
    have HG3 := hide hG3
    by_cases hlt : j < n
    · have hji : ((j : Nat) : Int) < ((n : Nat) : Int) := by omega
      have hjl : j < l.length := by have := unhide HN; omega
      obtain ⟨b, o, rfl, _, hc, _⟩ := unhide HS j hjl
      have hc3 := (hO3.bb.cell (World.block_lt_of_cell? _ _ hc)).trans hc
      have HTS := hide (flat_take_succ textB hjl)
      have HC := hide (putText_any w0 wr (.slice a3 n3 c3) _ l[j] (unhide HSL j hjl) hO3 (unhide HL j))
      clear hc hO3 hG3
      generalize (⟨l[j].toArray⟩ : ByteArray) = z at *
      generalize textB l[j] = sb at *
      go_wp2_with fail
      refine (unhide HC).mono ?_
      rintro e w5 ⟨a5, n5, c5, rfl, hO5, hG5⟩
      have HO5 : Hid (Own w0 (.slice a5 n5 c5) (pre ++ numB ((n : Nat) : Int) ++ (l.take (j + 1)).flatMap textB) w5) := by
        show Own _ _ _ _
        rw [unhide HTS, ← List.append_assoc]
        exact hO5
      have HG5 := hide ((unhide HG3).trans hG5)
      clear hO5 hG5 hc3
      go_wp2_with fail
      exact ⟨⟨j + 1, a5, n5, c5, by omega, by go_num, rfl, unhide HO5, unhide HG5⟩, by simp [intOf]; omega⟩
    · have e : j = n := by omega
      have hji : ¬ ((j : Nat) : Int) < ((n : Nat) : Int) := by omega
      have HO4 : Hid (Own w0 (.slice a3 n3 c3) (pre ++ (numB ((l.length : Nat) : Int) ++ l.flatMap textB)) wr) := by
        show Own _ _ _ _
        rw [unhide HCS, ← e]
        rw [e]
        rw [e] at hO3
        exact hO3
      clear e hO3 hG3 HO3
      go_wp2_with fail
      go_ret
      exact ⟨a3, n3, c3, rfl, unhide HO4, unhide HG3⟩
end Go.Proofs.YtdlbpbglidhlfaaGreatDoor

namespace Go.Proofs.YtdlbpbglidhlfaaGreatDoor
open Go.RowKit

theorem zeroCells_bytes (m : Nat) : (Builtin.zeroCells (Value.int .u8 0).cells m).toList = (List.replicate m (0 : UInt8)).map bv := by
  have e : (Value.int .u8 0).cells = #[.int .u8 0] := rfl
  rw [e, List.map_replicate]
  unfold Builtin.zeroCells
  apply List.ext_getElem
  · simp
  · intro j h1 h2
    simp [bv, Nat.mod_one]

theorem run_append_noughts {P : Program} (w : World) (t tn ty e : TypeId) (i : TypeInfo) (kn kq : IntKind) (ht : P.underlying t = some (.slice e)) (htn : P.underlying tn = some (.int kn)) (hi : P.info? e = some i) (hz : i.zero = some (.int .u8 0)) (hs : i.size = 1) (hb : i.bytes = 1)
    (v : Value) (xs : List UInt8) (hown : w.ownsRow 0 e 1 v xs.length (xs.map bv)) (m : Nat) (hl : xs.length + m ≤ 140737488355328) :
    ∃ v' w', (Builtin.append_ #[t, tn] ty #[v, .int kq (m : Nat)]).run P w = .ok v' w' ∧ w'.ownsRow 0 e 1 v' (xs ++ List.replicate m 0).length ((xs ++ List.replicate m 0).map bv) ∧ w.grownBy w' v.ownBlock ∧
      (v'.ownBlock = v.ownBlock ∨ ∃ k, v'.ownBlock = some k ∧ w.heap.size ≤ k) := by
  have hmx : xs.length + m ≤ maxLen := by unfold maxLen; omega
  have hw : IntKind.i64.wrap (m : Int) = m := by rw [IntKind.wrap_i64]; omega
  have hneg : ¬ ((m : Int) < 0) := by omega
  have h48i : ¬ (281474976710656 < (m : Int) * (i.bytes : Int)) := by rw [hb]; omega
  have hmap : (xs ++ List.replicate m 0).map bv = xs.map bv ++ (Builtin.zeroCells (Value.int .u8 0).cells m).toList := by rw [List.map_append, zeroCells_bytes]
  have hlen : (xs ++ List.replicate m (0 : UInt8)).length = xs.length + m := by simp
  have hzl : (Builtin.zeroCells (Value.int .u8 0).cells m).toList.length = m := by rw [zeroCells_bytes]; simp
  have hzz : (Builtin.zeroCells (Value.int .u8 0).cells m).size = m := by rw [← Array.length_toList]; exact hzl
  by_cases h0 : m = 0
  · subst h0
    refine ⟨v, w, ?_, by simpa using hown, World.grownBy.refl _ _, .inl rfl⟩
    rcases hown.2 with ⟨rfl, hn⟩ | ⟨g, cap, cur, rfl, hb0, hg, hnc, hcm, hcs, htk⟩
    · simp [Builtin.append_, run_underlying ht, run_underlying htn, sizeOf, typeInfo, hi, asInt, asIntOf, IntKind.wrap_i64]
    · simp [Builtin.append_, run_underlying ht, run_underlying htn, sizeOf, typeInfo, hi, asInt, asIntOf, IntKind.wrap_i64, hnc, storeCells]
  have grown : ∀ (old : Nat), ∀ (row : Option Nat),
      (w.drew.alloc (.cells ((xs.map bv).toArray ++ Builtin.zeroCells (Value.int .u8 0).cells m ++ Builtin.zeroCells (Value.int .u8 0).cells (grownCap w (xs.length + m) old e - (xs.length + m))) e)).ownsRow 0 e 1
        (.slice (some ⟨w.heap.size, 0, none⟩) (xs.length + m) (grownCap w (xs.length + m) old e)) (xs ++ List.replicate m 0).length ((xs ++ List.replicate m 0).map bv) ∧
      w.grownBy (w.drew.alloc (.cells ((xs.map bv).toArray ++ Builtin.zeroCells (Value.int .u8 0).cells m ++ Builtin.zeroCells (Value.int .u8 0).cells (grownCap w (xs.length + m) old e - (xs.length + m))) e)) row := by
    intro old row
    have hge := grownCap_ge w (xs.length + m) old e
    have hcm : grownCap w (xs.length + m) old e ≤ maxLen := grownCap_le_maxLen w (xs.length + m) old e hmx
    refine ⟨⟨by simp, .inr ⟨w.heap.size, _, _, by rw [hlen], Nat.zero_le _, heap_alloc_new w.drew _, by rw [hlen]; exact hge, hcm, ?_, ?_⟩⟩, ⟨rfl, rfl, rfl, by simp, fun k hk _ => heap_alloc_old w.drew _ hk⟩⟩
    · have e1 : (Value.int .u8 0).cells.size = 1 := rfl
      simp only [Array.size_append, List.size_toArray, size_zeroCells, e1, List.length_map]
      omega
    · rw [hmap, hlen]
      simp only [Array.toList_append]
      exact List.take_left' (by rw [List.length_append, hzl]; simp)
  rcases hown.2 with ⟨rfl, hn⟩ | ⟨g, cap, cur, rfl, hb0, hg, hnc, hcm, hcs, htk⟩
  · have hx : xs = [] := List.eq_nil_of_length_eq_zero hn
    subst hx
    have hr := Lib.run_append_nil_zeros (P := P) w t tn ty e i (.int .u8 0) kq kn ht htn hi hz m (by omega) (by omega) (by omega) (by rw [hb]; omega)
    have hgr := grown 0 (Value.ownBlock (.slice none 0 0))
    simp only [List.length_nil, Nat.zero_add, List.map_nil, Array.empty_append] at hgr
    refine ⟨_, _, hr, ?_, ?_, .inr ⟨_, rfl, Nat.le_refl _⟩⟩
    · exact hgr.1
    · exact hgr.2
  · by_cases hroom : xs.length + m ≤ cap
    · have hfit : xs.length * 1 + (Builtin.zeroCells (Value.int .u8 0).cells m).toList.length ≤ cur.size := by rw [hzl, hcs]; omega
      have hone : ∀ u ∈ (Builtin.zeroCells (Value.int .u8 0).cells m).toList, u.oneCell' = true := by rw [zeroCells_bytes]; exact bv_one _
      have hst := run_storeCells_at P g (xs.length * 1) e (Builtin.zeroCells (Value.int .u8 0).cells m).toList 0 cur w hg (by simpa using hfit) hone
      simp only [Nat.add_zero] at hst
      have hr : (Builtin.append_ #[t, tn] ty #[.slice (some ⟨g, 0, none⟩) xs.length cap, .int kq (m : Nat)]).run P w = .ok (.slice (some ⟨g, 0, none⟩) (xs.length + m) cap) (w.setRow g (cur.toList.take (xs.length * 1) ++ (Builtin.zeroCells (Value.int .u8 0).cells m).toList ++ cur.toList.drop (xs.length * 1 + (Builtin.zeroCells (Value.int .u8 0).cells m).toList.length)).toArray) := by
        have hns : ¬ (m * i.size = 0) := by rw [hs]; omega
        simp only [Nat.mul_one] at hst ⊢
        simp [Builtin.append_, run_underlying ht, run_underlying htn, sizeOf, typeInfo, zeroValue, hi, hz, hs, asInt, asIntOf, hw, h0, hneg, h48i, hroom, Addr.add_lit, hst]
      refine ⟨_, _, hr, ⟨by simp, .inr ⟨g, cap, _, by rw [hlen], Nat.zero_le _, setRow_heap w g cur _ e _ hg, by rw [hlen]; exact hroom, hcm, ?_, ?_⟩⟩, ⟨rfl, rfl, rfl, by simp, fun k _ hk => setRow_other w g k _ (fun e => hk (by simp [Value.ownBlock, e]))⟩, .inl rfl⟩
      · simp only [List.size_toArray, List.length_append, List.length_take, List.length_drop, Array.length_toList]
        omega
      · rw [htk, hmap, hlen]
        exact List.take_left' (by rw [List.length_append, hzl]; simp)
    · have holds : ∀ j u, (xs.map bv)[j]? = some u → w.cell? ((⟨g, 0, none⟩ : Addr).add j) = some u := hown.cells (g := g) rfl
      have hold := run_firstCells_some (P := P) w.drew i.size xs.length ⟨g, 0, none⟩ xs.length cap (xs.map bv) (by rw [hs]; simp) (by simpa using holds)
      have hr := Lib.run_append_grow_zeros (P := P) w t tn ty e i (.int .u8 0) kq kn ht htn hi hz (some ⟨g, 0, none⟩) xs.length cap (xs.map bv) hold m (by omega) (by omega) (by omega) (by omega) (by rw [hb]; omega) (by rw [hb]; exact growslice_fits (by omega) (by omega))
      have hgr := grown cap (Value.ownBlock (.slice (some ⟨g, 0, none⟩) xs.length cap))
      exact ⟨_, _, hr, hgr.1, hgr.2, .inr ⟨_, rfl, Nat.le_refl _⟩⟩

/-- In a walk. -/
theorem wpList_append_noughts {P : Program} (w : World) {ops : Array Oper} {rest : List Oper} {o : Oper} {a : Act} {Q : Exit → Act → World → Prop} (hgd : o.guard = none) (s x : Operand) (t tn : TypeId)
    (ho : o.op = .call { callee := .builtin .append, args := #[s, x], argTypes := #[t, tn] }) (e : TypeId) (i : TypeInfo) (kn kq : IntKind) (ht : P.underlying t = some (.slice e)) (htn : P.underlying tn = some (.int kn)) (hi : P.info? e = some i) (hz : i.zero = some (.int .u8 0)) (hs : i.size = 1) (hb : i.bytes = 1)
    (v : Value) (xs : List UInt8) (hsv : a.eval s = v) (hown : w.ownsRow 0 e 1 v xs.length (xs.map bv)) (m : Nat) (hx : a.eval x = .int kq (m : Nat)) (hl : xs.length + m ≤ 140737488355328)
    (h : ∀ v' w', w'.ownsRow 0 e 1 v' (xs ++ List.replicate m 0).length ((xs ++ List.replicate m 0).map bv) → w.grownBy w' v.ownBlock → (v'.ownBlock = v.ownBlock ∨ ∃ k, v'.ownBlock = some k ∧ w.heap.size ≤ k) → wpList P ops Q rest (a.put o.dst v') w') : wpList P ops Q (o :: rest) a w := by
  obtain ⟨v', w', hr, r1, r2, r3⟩ := run_append_noughts (P := P) w t tn o.type e i kn kq ht htn hi hz hs hb v xs hown m hl
  exact Lib.wpList_append_run w hgd s x t tn ho v (.int kq (m : Nat)) hsv hx v' w' hr (h v' w' r1 r2 r3)
end Go.Proofs.YtdlbpbglidhlfaaGreatDoor
