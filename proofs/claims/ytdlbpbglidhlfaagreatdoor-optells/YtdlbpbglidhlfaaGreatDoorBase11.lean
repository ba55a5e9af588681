/- OpRight: our own definitions and contracts; no statement of the seat is proved here. -/
import Derived.Test.YtdlbpbglidhlfaaGreatDoorBase02
import Derived.Test.YtdlbpbglidhlfaaGreatDoorBase10
import Derived.Test.YtdlbpbglidhlfaaGreatDoorBase09
import Derived.BigQuiet
namespace Go.Proofs.YtdlbpbglidhlfaaGreatDoor
open Go.RowKit

/-- Bits joined. -/
theorem or_bits : ∀ b0 b1 b2 b3 b4 : Bool, (1 * b0.toNat ||| 2 * b1.toNat) = b0.toNat + 2 * b1.toNat ∧ (b0.toNat + 2 * b1.toNat ||| 4 * b2.toNat) = b0.toNat + 2 * b1.toNat + 4 * b2.toNat ∧ (b0.toNat + 2 * b1.toNat + 4 * b2.toNat ||| 8 * b3.toNat) = b0.toNat + 2 * b1.toNat + 4 * b2.toNat + 8 * b3.toNat ∧ (b0.toNat + 2 * b1.toNat + 4 * b2.toNat + 8 * b3.toNat ||| 16 * b4.toNat) = OD.bits b0 b1 b2 b3 b4 := by decide +kernel
/-- What five calls of when give, and what they are joined. -/
theorem whens (b0 b1 b2 b3 b4 : Bool) : ∃ V0 V1 V2 V3 V4 X1 X2 X3 : Int, (∀ W, Calls Tryz.prog 47 #[.int .u8 1, .bool b0] W fun e w' => e = .returned (.int .u8 V0) ∧ w' = W) ∧ (∀ W, Calls Tryz.prog 47 #[.int .u8 2, .bool b1] W fun e w' => e = .returned (.int .u8 V1) ∧ w' = W) ∧ (∀ W, Calls Tryz.prog 47 #[.int .u8 4, .bool b2] W fun e w' => e = .returned (.int .u8 V2) ∧ w' = W) ∧ (∀ W, Calls Tryz.prog 47 #[.int .u8 8, .bool b3] W fun e w' => e = .returned (.int .u8 V3) ∧ w' = W) ∧ (∀ W, Calls Tryz.prog 47 #[.int .u8 16, .bool b4] W fun e w' => e = .returned (.int .u8 V4) ∧ w' = W) ∧ bits .or .u8 V0 V1 = X1 ∧ bits .or .u8 X1 V2 = X2 ∧ bits .or .u8 X2 V3 = X3 ∧ bits .or .u8 X3 V4 = ((OD.bits b0 b1 b2 b3 b4 : Nat) : Int) := by
  obtain ⟨h1, h2, h3, h4⟩ := or_bits b0 b1 b2 b3 b4
  have e0 : b0.toNat < 2 := by cases b0 <;> decide
  have e1 : b1.toNat < 2 := by cases b1 <;> decide
  have e2 : b2.toNat < 2 := by cases b2 <;> decide
  have e3 : b3.toNat < 2 := by cases b3 <;> decide
  have e4 : b4.toNat < 2 := by cases b4 <;> decide
  refine ⟨_, _, _, _, _, _, _, _, when_any 1 b0, when_any 2 b1, when_any 4 b2, when_any 8 b3, when_any 16 b4, rfl, rfl, rfl, ?_⟩
  rw [u8_or_nat _ _ (by omega) (by omega), h1, u8_or_nat _ _ (by omega) (by omega), h2, u8_or_nat _ _ (by omega) (by omega), h3, u8_or_nat _ _ (by omega) (by omega), h4]

set_option maxRecDepth 100000 in
set_option maxHeartbeats 4000000 in
theorem oRightP_any (o : OD) (B : Nat → Prop) (u : Value) (w : World) (h : o.At B w u) : Calls Tryz.prog 25 #[u] w fun e w' => e = .returned (.int .u8 ((OD.bits (idB o.id) (decide (1 ≤ o.token)) o.value.right (rightF o.frag) (decide (0 ≤ o.quota) && decide (o.quota ≤ 400)) : Nat) : Int)) ∧ Below w.heap.size w w' := by
  obtain ⟨L, s, t, K, N, z, a, m, c, fa, fn, fc, q, rfl, hp⟩ := h.form
  unfold OD.form9
  obtain ⟨W1, hW1⟩ : ∃ W1, W1 = w.alloc (.cells #[.int .u8 ((L : Nat) : Int), .string s, .int .i64 t, .int .u8 ((K : Nat) : Int), .int .i64 N, .string z, .slice a m c, .slice fa fn fc, .int .i64 q] 27) := ⟨_, rfl⟩
  have hb1 : Below w.heap.size w W1 := by rw [hW1]; exact (Below.refl _ _).alloc (Nat.le_refl _) _
  have hg1 : W1.heap[w.heap.size]? = some (.cells #[.int .u8 ((L : Nat) : Int), .string s, .int .i64 t, .int .u8 ((K : Nat) : Int), .int .i64 N, .string z, .slice a m c, .slice fa fn fc, .int .i64 q] 27 (0, 0)) := by rw [hW1]; exact heap_alloc_new _ _
  have HKS : Hid (∀ X, Below W1.heap.size W1 X → X.cell? ⟨w.heap.size, 1, none⟩ = some (.string s) ∧ X.cell? ⟨w.heap.size, 2, none⟩ = some (.int .i64 t) ∧ X.cell? ⟨w.heap.size, 3, none⟩ = some (.int .u8 ((K : Nat) : Int)) ∧ X.cell? ⟨w.heap.size, 4, none⟩ = some (.int .i64 N) ∧ X.cell? ⟨w.heap.size, 5, none⟩ = some (.string z) ∧ X.cell? ⟨w.heap.size, 6, none⟩ = some (.slice a m c) ∧ X.cell? ⟨w.heap.size, 7, none⟩ = some (.slice fa fn fc) ∧ X.cell? ⟨w.heap.size, 8, none⟩ = some (.int .i64 q) ∧ Below W1.heap.size W1 X) := fun X hX => by
    obtain ⟨d0, d1, d2, d3, d4, d5, d6, d7, d8⟩ := cells9 ((hX.block _ (Array.getElem?_eq_some_iff.1 hg1).1).trans hg1)
    exact ⟨d1, d2, d3, d4, d5, d6, d7, d8, hX⟩
  have HPT : Hid (∀ X, Below W1.heap.size W1 X → OD.Parts B X o L s t K N z a m c fa fn fc q) := fun X hX => hp.later (hb1.trans (hX.mono hb1.size))
  have HB1 := hide hb1
  have HID : Hid (∀ W, Calls Tryz.prog 8 #[.string s] W fun e w' => e = .returned (.bool (idB o.id)) ∧ w' = W) := fun W => by rw [hp.id]; exact oID_any o.id W
  have HVR : Hid (∀ X, Below W1.heap.size W1 X → Calls Tryz.prog 48 #[.agg #[.int .u8 ((K : Nat) : Int), .int .i64 N, .string z, .slice a m c]] X fun e w' => e = .returned (.bool o.value.right) ∧ Below X.heap.size X w') := fun X hX => right_any o.value B _ X (unhide HPT X hX).value
  have HFR : Hid (∀ X, Below W1.heap.size W1 X → Calls Tryz.prog 49 #[.slice fa fn fc] X fun e w' => e = .returned (.bool (rightF o.frag)) ∧ Below X.heap.size X w') := fun X hX => fRight_any o.frag B _ X (unhide HPT X hX).frag
  have ht : decide (t ≥ 1) = decide (1 ≤ o.token) := by rw [hp.tk]
  have hq : (decide (0 ≤ o.quota) && decide (o.quota ≤ 400)) = (decide (0 ≤ q) && decide (q ≤ 400)) := by rw [hp.qt]
  rw [hq]
  generalize idB o.id = b0 at *
  generalize decide (1 ≤ o.token) = b1 at *
  generalize o.value.right = b2 at *
  generalize rightF o.frag = b3 at *
  have hg1c := cells9 hg1
  obtain ⟨d0, d1, d2, d3, d4, d5, d6, d7, d8⟩ := hg1c
  have l1 := Later.cell d1
  have l2 := Later.cell d2
  have l3 := Later.cell d3
  have l4 := Later.cell d4
  have l5 := Later.cell d5
  have l6 := Later.cell d6
  have l7 := Later.cell d7
  have l8 := Later.cell d8
  clear d0 d1 d2 d3 d4 d5 d6 d7 d8
  clear hq hp hg1 hb1 HKS
  by_cases hq0 : q ≥ 0
  · rw [show decide (0 ≤ q) = true from decide_eq_true hq0, Bool.true_and]
    obtain ⟨b4, hb4⟩ : ∃ b4, b4 = decide (q ≤ 400) := ⟨_, rfl⟩
    rw [← hb4]
    replace hb4 := hb4.symm
    have hqd : decide (q ≥ 0) = true := decide_eq_true hq0
    obtain ⟨V0, V1, V2, V3, V4, X1, X2, X3, h0, h1, h2, h3, h4, x1, x2, x3, x4⟩ := whens b0 b1 b2 b3 b4
    have HW0 := hide h0
    have HW1 := hide h1
    have HW2 := hide h2
    have HW3 := hide h3
    have HW4 := hide h4
    generalize ((OD.bits b0 b1 b2 b3 b4 : Nat) : Int) = X4 at *
    clear h0 h1 h2 h3 h4 h hq0
    go_enter Tryz.func25, Tryz.ntmps25
    go_upto_region 1 with fail
    rw [← hW1]
    clear hW1
    have hne : Nonempty (Later W1) := ⟨⟨W1, Below.refl _ _⟩⟩
    refine wp_region_later (by kernel_rfl) ?_
    repeat (go_big_quiet_step ((rename_i q9; first | (go_at_call 8; refine (unhide HID _).mono ?_; rintro e w6 ⟨rfl, hw⟩; exact ⟨rfl, q9.same hw⟩) | (go_at_call 47; first | (refine (unhide HW0 _).mono ?_; rintro e w6 ⟨rfl, hw⟩; exact ⟨rfl, q9.same hw⟩) | (refine (unhide HW1 _).mono ?_; rintro e w6 ⟨rfl, hw⟩; exact ⟨rfl, q9.same hw⟩) | (refine (unhide HW2 _).mono ?_; rintro e w6 ⟨rfl, hw⟩; exact ⟨rfl, q9.same hw⟩) | (refine (unhide HW3 _).mono ?_; rintro e w6 ⟨rfl, hw⟩; exact ⟨rfl, q9.same hw⟩) | (refine (unhide HW4 _).mono ?_; rintro e w6 ⟨rfl, hw⟩; exact ⟨rfl, q9.same hw⟩)) | (go_at_call 48; refine (unhide HVR _ q9.2).mono ?_; rintro e w6 ⟨rfl, hb⟩; exact ⟨rfl, q9.then hb⟩) | (go_at_call 49; refine (unhide HFR _ q9.2).mono ?_; rintro e w6 ⟨rfl, hb⟩; exact ⟨rfl, q9.then hb⟩))))
    refine wpQuiet_nil ?_
    rintro _ ⟨q9, rfl⟩
    have HFIN : Hid (Below W1.heap.size W1 q9.1) := q9.2
    generalize q9.1 = W20 at *
    go_wp2_with fail
    go_ret
    exact ⟨rfl, (unhide HB1).trans ((unhide HFIN).mono (unhide HB1).size)⟩
  · have hqf : decide (0 ≤ q) = false := decide_eq_false hq0
    rw [hqf, Bool.false_and]
    have hqd : decide (q ≥ 0) = false := hqf
    obtain ⟨V0, V1, V2, V3, V4, X1, X2, X3, h0, h1, h2, h3, h4, x1, x2, x3, x4⟩ := whens b0 b1 b2 b3 false
    have HW0 := hide h0
    have HW1 := hide h1
    have HW2 := hide h2
    have HW3 := hide h3
    have HW4 := hide h4
    generalize ((OD.bits b0 b1 b2 b3 false : Nat) : Int) = X4 at *
    clear h0 h1 h2 h3 h4 h hqf hq0
    go_enter Tryz.func25, Tryz.ntmps25
    go_upto_region 1 with fail
    rw [← hW1]
    clear hW1
    have hne : Nonempty (Later W1) := ⟨⟨W1, Below.refl _ _⟩⟩
    refine wp_region_later (by kernel_rfl) ?_
    repeat (go_big_quiet_step ((rename_i q9; first | (go_at_call 8; refine (unhide HID _).mono ?_; rintro e w6 ⟨rfl, hw⟩; exact ⟨rfl, q9.same hw⟩) | (go_at_call 47; first | (refine (unhide HW0 _).mono ?_; rintro e w6 ⟨rfl, hw⟩; exact ⟨rfl, q9.same hw⟩) | (refine (unhide HW1 _).mono ?_; rintro e w6 ⟨rfl, hw⟩; exact ⟨rfl, q9.same hw⟩) | (refine (unhide HW2 _).mono ?_; rintro e w6 ⟨rfl, hw⟩; exact ⟨rfl, q9.same hw⟩) | (refine (unhide HW3 _).mono ?_; rintro e w6 ⟨rfl, hw⟩; exact ⟨rfl, q9.same hw⟩) | (refine (unhide HW4 _).mono ?_; rintro e w6 ⟨rfl, hw⟩; exact ⟨rfl, q9.same hw⟩)) | (go_at_call 48; refine (unhide HVR _ q9.2).mono ?_; rintro e w6 ⟨rfl, hb⟩; exact ⟨rfl, q9.then hb⟩) | (go_at_call 49; refine (unhide HFR _ q9.2).mono ?_; rintro e w6 ⟨rfl, hb⟩; exact ⟨rfl, q9.then hb⟩))))
    refine wpQuiet_nil ?_
    rintro _ ⟨q9, rfl⟩
    have HFIN : Hid (Below W1.heap.size W1 q9.1) := q9.2
    generalize q9.1 = W20 at *
    go_wp2_with fail
    go_ret
    exact ⟨rfl, (unhide HB1).trans ((unhide HFIN).mono (unhide HB1).size)⟩

theorem zero_at (B : Nat → Prop) (W : World) : zeroD.At B W (.agg #[.int .u8 0, .int .i64 0, .string ⟨#[]⟩, .slice none 0 0]) := by
  rw [VD.at_iff]
  exact ⟨none, 0, rfl, by show (0 : Nat) < 256; omega, by show InR 0; unfold InR; omega, Nat.zero_le _, Nat.le_refl _, Nat.zero_le _, fun j hj => absurd hj (Nat.not_lt_zero j)⟩
set_option maxRecDepth 100000 in
set_option maxHeartbeats 4000000 in
theorem oSome_any (o : OD) (B : Nat → Prop) (u : Value) (w : World) (h : o.At B w u) (hl : o.Lt) : Calls Tryz.prog 27 #[u] w fun e w' => e = .returned (.int .u8 ((OD.bits (!o.id.isEmpty) (decide (o.token ≠ 0)) (!o.isZ) (!o.frag.isEmpty) (decide (o.quota ≠ 0)) : Nat) : Int)) ∧ Below w.heap.size w w' := by
  obtain ⟨L, s, t, K, N, z, a, m, c, fa, fn, fc, q, rfl, hp⟩ := h.form
  unfold OD.form9
  obtain ⟨W1, hW1⟩ : ∃ W1, W1 = w.alloc (.cells #[.int .u8 ((L : Nat) : Int), .string s, .int .i64 t, .int .u8 ((K : Nat) : Int), .int .i64 N, .string z, .slice a m c, .slice fa fn fc, .int .i64 q] 27) := ⟨_, rfl⟩
  have hb1 : Below w.heap.size w W1 := by rw [hW1]; exact (Below.refl _ _).alloc (Nat.le_refl _) _
  have hg1 : W1.heap[w.heap.size]? = some (.cells #[.int .u8 ((L : Nat) : Int), .string s, .int .i64 t, .int .u8 ((K : Nat) : Int), .int .i64 N, .string z, .slice a m c, .slice fa fn fc, .int .i64 q] 27 (0, 0)) := by rw [hW1]; exact heap_alloc_new _ _
  have HKS : Hid (∀ X, Below W1.heap.size W1 X → X.cell? ⟨w.heap.size, 1, none⟩ = some (.string s) ∧ X.cell? ⟨w.heap.size, 2, none⟩ = some (.int .i64 t) ∧ X.cell? ⟨w.heap.size, 3, none⟩ = some (.int .u8 ((K : Nat) : Int)) ∧ X.cell? ⟨w.heap.size, 4, none⟩ = some (.int .i64 N) ∧ X.cell? ⟨w.heap.size, 5, none⟩ = some (.string z) ∧ X.cell? ⟨w.heap.size, 6, none⟩ = some (.slice a m c) ∧ X.cell? ⟨w.heap.size, 7, none⟩ = some (.slice fa fn fc) ∧ X.cell? ⟨w.heap.size, 8, none⟩ = some (.int .i64 q) ∧ Below W1.heap.size W1 X) := fun X hX => by
    obtain ⟨d0, d1, d2, d3, d4, d5, d6, d7, d8⟩ := cells9 ((hX.block _ (Array.getElem?_eq_some_iff.1 hg1).1).trans hg1)
    exact ⟨d1, d2, d3, d4, d5, d6, d7, d8, hX⟩
  have HPT : Hid (∀ X, Below W1.heap.size W1 X → OD.Parts B X o L s t K N z a m c fa fn fc q) := fun X hX => hp.later (hb1.trans (hX.mono hb1.size))
  have HB1 := hide hb1
  have HVS : Hid (∀ X, Below W1.heap.size W1 X → Calls Tryz.prog 28 #[.agg #[.int .u8 ((K : Nat) : Int), .int .i64 N, .string z, .slice a m c], .agg #[.int .u8 0, .int .i64 0, .string ⟨#[]⟩, .slice none 0 0]] X fun e w' => e = .returned (.bool o.isZ) ∧ Below X.heap.size X w') := fun X hX => same_any o.value zeroD B (fun _ => True) _ _ X (unhide HPT X hX).value (zero_at _ _) hl.1 hl.2
  have hse : s.toList.isEmpty = !(!o.id.isEmpty) := by rw [hp.id, str_empty, Bool.not_not]
  have hsn : (!s.toList.isEmpty) = (!o.id.isEmpty) := by rw [hp.id, str_empty]
  have hsb : (s.toList != []) = (!o.id.isEmpty) := by rw [← hsn]; cases s.toList <;> rfl
  have ht : (t != 0) = decide (o.token ≠ 0) := by rw [hp.tk]; rw [Bool.eq_iff_iff, bne_iff_ne, decide_eq_true_eq]
  have hq : (q != 0) = decide (o.quota ≠ 0) := by rw [hp.qt]; rw [Bool.eq_iff_iff, bne_iff_ne, decide_eq_true_eq]
  have hfl : fn = o.frag.length := by obtain ⟨a, c, e, _⟩ := hp.frag; cases e; rfl
  have hf : decide (((fn : Nat) : Int) > 0) = (!o.frag.isEmpty) := by rw [hfl, Bool.eq_iff_iff, decide_eq_true_eq]; cases o.frag <;> simp
  have hf2 : decide (0 < fn) = (!o.frag.isEmpty) := by rw [hfl, Bool.eq_iff_iff, decide_eq_true_eq]; cases o.frag <;> simp
  generalize (!o.id.isEmpty) = b0 at *
  generalize decide (o.token ≠ 0) = b1 at *
  obtain ⟨b2, hb2⟩ : ∃ b2, b2 = o.isZ := ⟨_, rfl⟩
  rw [← hb2] at HVS ⊢
  generalize (!o.frag.isEmpty) = b3 at *
  generalize decide (o.quota ≠ 0) = b4 at *
  have hg1c := cells9 hg1
  obtain ⟨d0, d1, d2, d3, d4, d5, d6, d7, d8⟩ := hg1c
  have l1 := Later.cell d1
  have l2 := Later.cell d2
  have l3 := Later.cell d3
  have l4 := Later.cell d4
  have l5 := Later.cell d5
  have l6 := Later.cell d6
  have l7 := Later.cell d7
  have l8 := Later.cell d8
  clear d0 d1 d2 d3 d4 d5 d6 d7 d8
  clear hp hg1 hb1 HKS hb2 hfl
  obtain ⟨V0, V1, V2, V3, V4, X1, X2, X3, h0, h1, h2, h3, h4, x1, x2, x3, x4⟩ := whens b0 b1 (!b2) b3 b4
  have HW0 := hide h0
  have HW1 := hide h1
  have HW2 := hide h2
  have HW3 := hide h3
  have HW4 := hide h4
  generalize ((OD.bits b0 b1 (!b2) b3 b4 : Nat) : Int) = X4 at *
  clear h0 h1 h2 h3 h4 h hl
  go_enter Tryz.func27, Tryz.ntmps27
  go_upto_region 1 with fail
  rw [← hW1]
  clear hW1
  have hne : Nonempty (Later W1) := ⟨⟨W1, Below.refl _ _⟩⟩
  refine wp_region_later (by kernel_rfl) ?_
  repeat (go_big_quiet_step ((rename_i q9; first | (go_at_call 47; first | (refine (unhide HW0 _).mono ?_; rintro e w6 ⟨rfl, hw⟩; exact ⟨rfl, q9.same hw⟩) | (refine (unhide HW1 _).mono ?_; rintro e w6 ⟨rfl, hw⟩; exact ⟨rfl, q9.same hw⟩) | (refine (unhide HW2 _).mono ?_; rintro e w6 ⟨rfl, hw⟩; exact ⟨rfl, q9.same hw⟩) | (refine (unhide HW3 _).mono ?_; rintro e w6 ⟨rfl, hw⟩; exact ⟨rfl, q9.same hw⟩) | (refine (unhide HW4 _).mono ?_; rintro e w6 ⟨rfl, hw⟩; exact ⟨rfl, q9.same hw⟩)) | (go_at_call 28; refine (unhide HVS _ q9.2).mono ?_; rintro e w6 ⟨rfl, hb⟩; exact ⟨rfl, q9.then hb⟩))))
  refine wpQuiet_nil ?_
  rintro _ ⟨q9, rfl⟩
  have HFIN : Hid (Below W1.heap.size W1 q9.1) := q9.2
  generalize q9.1 = W20 at *
  go_wp2_with fail
  go_ret
  exact ⟨rfl, (unhide HB1).trans ((unhide HFIN).mono (unhide HB1).size)⟩

set_option maxRecDepth 100000 in
set_option maxHeartbeats 4000000 in
theorem oRight_any (o : OD) (B : Nat → Prop) (u : Value) (w : World) (h : o.At B w u) (hl : o.Lt) (hT : OTab w) : Calls Tryz.prog 10 #[u] w fun e w' => e = .returned (.bool o.right) ∧ Below w.heap.size w w' := by
  obtain ⟨L, s, t, K, N, z, a, m, c, fa, fn, fc, q, rfl, hp⟩ := h.form
  unfold OD.form9
  obtain ⟨W1, hW1⟩ : ∃ W1, W1 = w.alloc (.cells #[.int .u8 ((L : Nat) : Int), .string s, .int .i64 t, .int .u8 ((K : Nat) : Int), .int .i64 N, .string z, .slice a m c, .slice fa fn fc, .int .i64 q] 27) := ⟨_, rfl⟩
  have hb1 : Below w.heap.size w W1 := by rw [hW1]; exact (Below.refl _ _).alloc (Nat.le_refl _) _
  have hg1 : W1.heap[w.heap.size]? = some (.cells #[.int .u8 ((L : Nat) : Int), .string s, .int .i64 t, .int .u8 ((K : Nat) : Int), .int .i64 N, .string z, .slice a m c, .slice fa fn fc, .int .i64 q] 27 (0, 0)) := by rw [hW1]; exact heap_alloc_new _ _
  have HKS : Hid (∀ X, Below W1.heap.size W1 X → X.cell? ⟨w.heap.size, 1, none⟩ = some (.string s) ∧ X.cell? ⟨w.heap.size, 2, none⟩ = some (.int .i64 t) ∧ X.cell? ⟨w.heap.size, 3, none⟩ = some (.int .u8 ((K : Nat) : Int)) ∧ X.cell? ⟨w.heap.size, 4, none⟩ = some (.int .i64 N) ∧ X.cell? ⟨w.heap.size, 5, none⟩ = some (.string z) ∧ X.cell? ⟨w.heap.size, 6, none⟩ = some (.slice a m c) ∧ X.cell? ⟨w.heap.size, 7, none⟩ = some (.slice fa fn fc) ∧ X.cell? ⟨w.heap.size, 8, none⟩ = some (.int .i64 q) ∧ Below W1.heap.size W1 X) := fun X hX => by
    obtain ⟨d0, d1, d2, d3, d4, d5, d6, d7, d8⟩ := cells9 ((hX.block _ (Array.getElem?_eq_some_iff.1 hg1).1).trans hg1)
    exact ⟨d1, d2, d3, d4, d5, d6, d7, d8, hX⟩
  have HPT : Hid (∀ X, Below W1.heap.size W1 X → OD.Parts B X o L s t K N z a m c fa fn fc q) := fun X hX => hp.later (hb1.trans (hX.mono hb1.size))
  have HB1 := hide hb1
  have HOF : Hid (∀ X, Below W1.heap.size W1 X → Calls Tryz.prog 24 #[.int .u8 ((L : Nat) : Int)] X fun e w' => e = .returned (.int .u8 ((OD.has L : Nat) : Int)) ∧ w' = X) := fun X hX => of_any L (by rw [hp.wh]; exact hp.fits.wh) X (hT.later (hb1.trans (hX.mono hb1.size)))
  have HRP : Hid (∀ X, Below W1.heap.size W1 X → Calls Tryz.prog 25 #[OD.form9 L s t K N z a m c fa fn fc q] X fun e w' => e = .returned (.int .u8 ((OD.bits (idB o.id) (decide (1 ≤ o.token)) o.value.right (rightF o.frag) (decide (0 ≤ o.quota) && decide (o.quota ≤ 400)) : Nat) : Int)) ∧ Below X.heap.size X w') := fun X hX => oRightP_any o B _ X (unhide HPT X hX).at
  have HSP : Hid (∀ X, Below W1.heap.size W1 X → Calls Tryz.prog 27 #[OD.form9 L s t K N z a m c fa fn fc q] X fun e w' => e = .returned (.int .u8 ((OD.bits (!o.id.isEmpty) (decide (o.token ≠ 0)) (!o.isZ) (!o.frag.isEmpty) (decide (o.quota ≠ 0)) : Nat) : Int)) ∧ Below X.heap.size X w') := fun X hX => oSome_any o B _ X (unhide HPT X hX).at hl
  have HV : Hid (o.right = (decide (OD.has L ≠ 0) && (OD.sub (OD.has L) (OD.bits (idB o.id) (decide (1 ≤ o.token)) o.value.right (rightF o.frag) (decide (0 ≤ o.quota) && decide (o.quota ≤ 400))) && OD.sub (OD.bits (!o.id.isEmpty) (decide (o.token ≠ 0)) (!o.isZ) (!o.frag.isEmpty) (decide (o.quota ≠ 0))) (OD.has L)))) := by
    show _ = _
    rw [hp.wh]
    exact OD.form_bits _ _ _ _ _ _ _ _ _ _ _
  have hL1 := OD.bits_lt (idB o.id) (decide (1 ≤ o.token)) o.value.right (rightF o.frag) (decide (0 ≤ o.quota) && decide (o.quota ≤ 400))
  have hL2 := OD.bits_lt (!o.id.isEmpty) (decide (o.token ≠ 0)) (!o.isZ) (!o.frag.isEmpty) (decide (o.quota ≠ 0))
  generalize OD.bits (idB o.id) (decide (1 ≤ o.token)) o.value.right (rightF o.frag) (decide (0 ≤ o.quota) && decide (o.quota ≤ 400)) = R1 at *
  generalize OD.bits (!o.id.isEmpty) (decide (o.token ≠ 0)) (!o.isZ) (!o.frag.isEmpty) (decide (o.quota ≠ 0)) = R2 at *
  have hHL := OD.has_lt L
  have HH1 := hide (fun W => has_any R1 (OD.has L) hL1 hHL W)
  have HH2 := hide (fun W => has_any (OD.has L) R2 hHL hL2 W)
  obtain ⟨d0, d1, d2, d3, d4, d5, d6, d7, d8⟩ := cells9 hg1
  generalize o.right = rr at *
  unfold OD.form9 at *
  clear hp hg1 hb1 HPT h hl hL1 hL2 hT hHL
  generalize hE1 : OD.sub (OD.has L) R1 = c1 at *
  generalize hE2 : OD.sub R2 (OD.has L) = c2 at *
  clear hE1 hE2
  generalize OD.has L = H at *
  go_enter Tryz.func10, Tryz.ntmps10
  go_upto_region 1 with fail
  rw [← hW1]
  clear hW1
  go_wp2_with fail
  refine (unhide HOF _ (Below.refl _ _)).mono ?_
  rintro e w6 ⟨rfl, hw⟩
  rw [hw]
  clear hw w6
  have HFX : Hid (∀ X, Below W1.heap.size W1 X → X.cell? ⟨w.heap.size, 0, none⟩ = some (.int .u8 ((L : Nat) : Int)) ∧ X.cell? ⟨w.heap.size, 1, none⟩ = some (.string s) ∧ X.cell? ⟨w.heap.size, 2, none⟩ = some (.int .i64 t) ∧ X.cell? ⟨w.heap.size, 3, none⟩ = some (.int .u8 ((K : Nat) : Int)) ∧ X.cell? ⟨w.heap.size, 4, none⟩ = some (.int .i64 N) ∧ X.cell? ⟨w.heap.size, 5, none⟩ = some (.string z) ∧ X.cell? ⟨w.heap.size, 6, none⟩ = some (.slice a m c) ∧ X.cell? ⟨w.heap.size, 7, none⟩ = some (.slice fa fn fc) ∧ X.cell? ⟨w.heap.size, 8, none⟩ = some (.int .i64 q) ∧ Below W1.heap.size W1 X) := fun X hX => ⟨(hX.cell (World.block_lt_of_cell? _ _ d0)).trans d0, unhide HKS X hX⟩
  by_cases hH : H = 0
  · subst hH
    have HE : Hid (rr = false) := by show _ = _; rw [unhide HV]; simp
    clear HV HOF HRP HSP HH1 HH2
    go_wp2_with fail
    go_ret
    exact ⟨ret_bool (unhide HE).symm, unhide HB1⟩
  have n1 : (((H : Nat) : Int) != 0) = true := by rw [bne_iff_ne]; omega
  have n2 : (((H : Nat) : Int) == 0) = false := by rw [beq_eq_false_iff_ne]; omega
  have HE : Hid (rr = (c1 && c2)) := by show _ = _; rw [unhide HV, decide_eq_true hH, Bool.true_and]
  clear HV HOF hH
  go_wp2_with fail
  refine (unhide HRP _ (Below.refl _ _)).mono ?_
  rintro e w7 ⟨rfl, hb7⟩
  have HB7 := hide hb7
  obtain ⟨k0, k1, k2, k3, k4, k5, k6, k7, k8, -⟩ := unhide HFX _ hb7
  clear hb7 d0 d1 d2 d3 d4 d5 d6 d7 d8
  go_wp2_with fail
  refine (unhide HH1 _).mono ?_
  rintro e w6 ⟨rfl, hw⟩
  rw [hw]
  clear hw w6
  cases c1 with
  | false =>
    go_wp2_with fail
    go_ret
    exact ⟨ret_bool (unhide HE).symm, (unhide HB1).trans ((unhide HB7).mono (unhide HB1).size)⟩
  | true =>
    go_wp2_with fail
    refine (unhide HSP _ (unhide HB7)).mono ?_
    rintro e w8 ⟨rfl, hb8⟩
    have HB8 := hide ((unhide HB7).trans (hb8.mono (unhide HB7).size))
    clear hb8 k0 k1 k2 k3 k4 k5 k6 k7 k8
    go_wp2_with fail
    refine (unhide HH2 _).mono ?_
    rintro e w6 ⟨rfl, hw⟩
    rw [hw]
    clear hw w6
    go_wp2_with fail
    go_ret
    exact ⟨ret_bool (unhide HE).symm, (unhide HB1).trans ((unhide HB8).mono (unhide HB1).size)⟩
end Go.Proofs.YtdlbpbglidhlfaaGreatDoor
