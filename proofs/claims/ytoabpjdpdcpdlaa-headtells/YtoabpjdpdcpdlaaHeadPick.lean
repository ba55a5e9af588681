/- The document's heads (foremanref05): Pick. No statement of the seat is proved here. -/
import Derived.Test.YtoabpjdpdcpdlaaHeadRead
namespace Go.Proofs.Ytoabpjdpdcpdlaa
open Go.RowKit

/-- Which of the two, as the program goes. -/
theorem pickH_eq (zero one : List UInt8) (x y : Bool) (hx : x = (isHead zero && (readH zero).s % 2 == 0)) (hy : y = (isHead one && (readH one).s % 2 == 1)) :
    pickH zero one = if (x && y && decide ((readH one).s > (readH zero).s)) || (y && !x) then some (readH one) else if x then some (readH zero) else none := by
  subst hx hy
  unfold pickH
  cases h0 : isHead zero <;> cases h1 : isHead one <;> simp [h0, h1, readH]
/-- What Pick answers. -/
def pickV (zero one : List UInt8) : HeadD := (pickH zero one).getD ⟨0, 0, 0⟩

set_option maxRecDepth 100000 in
set_option maxHeartbeats 8000000 in
theorem refPick_any (u v : Value) (zero one : List UInt8) (w : World) (hu : Bytes w u zero) (hv : Bytes w v one) : Calls Try.prog 15 #[u, v] w fun e w' => e = .returned (.tuple #[(pickV zero one).val, .bool (pickH zero one).isSome]) ∧ Below w.heap.size w w' := by
  obtain ⟨w0, hw0⟩ : ∃ w0, w0 = w.alloc (.cells #[.int .u64 0, .int .u64 0, .int .u8 0] 24) := ⟨_, rfl⟩
  have HB0 : Hid (Below w.heap.size w w0) := by show Below _ _ _; rw [hw0]; exact (Below.refl _ w).alloc (Nat.le_refl _) _
  have HX0 : Hid (w0.heap[w.heap.size]? = some (.cells #[.int .u64 0, .int .u64 0, .int .u8 0] 24 (0, 0))) := by show _ = _; rw [hw0]; exact heap_alloc_new w _
  have HU : Hid (Bytes w0 u zero) := hu.kept fun k _ hk => (unhide HB0).block k hk
  have HV : Hid (Bytes w0 v one) := hv.kept fun k _ hk => (unhide HB0).block k hk
  obtain ⟨x, hx⟩ : ∃ x, x = (isHead zero && (readH zero).s % 2 == 0) := ⟨_, rfl⟩
  obtain ⟨y, hy⟩ : ∃ y, y = (isHead one && (readH one).s % 2 == 1) := ⟨_, rfl⟩
  have hp := pickH_eq zero one x y hx hy
  unfold pickV
  rw [hp]
  obtain ⟨⟨s0, e0, l0⟩, hA⟩ : ∃ A, A = readH zero := ⟨_, rfl⟩
  obtain ⟨⟨s1, e1, l1⟩, hB⟩ : ∃ B, B = readH one := ⟨_, rfl⟩
  rw [← hA] at hx ⊢
  rw [← hB] at hy ⊢
  have HA : Hid ((readH zero).val = .agg #[.int .u64 ((s0 : Nat) : Int), .int .u64 ((e0 : Nat) : Int), .int .u8 ((l0 : Nat) : Int)]) := by show _ = _; rw [← hA]; rfl
  have HB : Hid ((readH one).val = .agg #[.int .u64 ((s1 : Nat) : Int), .int .u64 ((e1 : Nat) : Int), .int .u8 ((l1 : Nat) : Int)]) := by show _ = _; rw [← hB]; rfl
  obtain ⟨X, hX⟩ : ∃ X, X = isHead zero := ⟨_, rfl⟩
  obtain ⟨Y, hY⟩ : ∃ Y, Y = isHead one := ⟨_, rfl⟩
  rw [← hX] at hx
  rw [← hY] at hy
  have hx2 : x = (X && ((s0 : Int) % 2 == 0)) := by rw [hx]; congr 1; rw [Bool.eq_iff_iff, beq_iff_eq, beq_iff_eq]; show s0 % 2 = 0 ↔ _; omega
  have hy2 : y = (Y && ((s1 : Int) % 2 == 1)) := by rw [hy]; congr 1; rw [Bool.eq_iff_iff, beq_iff_eq, beq_iff_eq]; show s1 % 2 = 1 ↔ _; omega
  have HX := hide hX
  have HY := hide hY
  have HXX := hide hx2
  have HYY := hide hy2
  clear hu hv hp hA hB hX hY hx hy hx2 hy2
  go_enter Try.func15, Try.ntmps15
  go_wp2_with fail
  rw [← hw0]
  refine (refHRead_any u zero w0 (unhide HU)).mono ?_
  rintro e w1 ⟨rfl, hb1⟩
  rw [unhide HA, ← unhide HX]
  have HW0 := hide hw0
  have HB1 := hide hb1
  clear hw0 hb1
  go_wp2_with fail
  have HB2 : Hid (Below w0.heap.size w0 (w1.alloc (.cells #[.int .u64 ((s0 : Nat) : Int), .int .u64 ((e0 : Nat) : Int), .int .u8 ((l0 : Nat) : Int)] 24))) := (unhide HB1).alloc (unhide HB1).size _
  have HG1 : Hid (w0.heap.size ≤ w1.heap.size) := (unhide HB1).size
  refine (refHRead_any v one _ ((unhide HV).kept fun k _ hk => (unhide HB2).block k hk)).mono ?_
  rintro e w2 ⟨rfl, hb2⟩
  rw [unhide HB, ← unhide HY]
  have HA2 : Hid (w2.heap[w1.heap.size]? = some (.cells #[.int .u64 ((s0 : Nat) : Int), .int .u64 ((e0 : Nat) : Int), .int .u8 ((l0 : Nat) : Int)] 24 (0, 0))) := (hb2.block _ (by simp)).trans (heap_alloc_new w1 _)
  have HB3 : Hid (Below w0.heap.size w0 w2) := (unhide HB2).trans (hb2.mono (unhide HB2).size)
  clear hb2 HB1 HB2 HU HV HA HB
  obtain ⟨g, hg⟩ : ∃ g, g = w1.heap.size := ⟨_, rfl⟩
  rw [← hg] at HA2 HG1 ⊢
  clear hg
  obtain ⟨w3, hw3⟩ : ∃ w3, w3 = w2.alloc (.cells #[.int .u64 ((s1 : Nat) : Int), .int .u64 ((e1 : Nat) : Int), .int .u8 ((l1 : Nat) : Int)] 24) := ⟨_, rfl⟩
  obtain ⟨k, hk⟩ : ∃ k, k = w2.heap.size := ⟨_, rfl⟩
  have HB4 : Hid (Below w0.heap.size w0 w3) := by show Below _ _ _; rw [hw3]; exact (unhide HB3).alloc (unhide HB3).size _
  have HXk : Hid (w3.heap[k]? = some (.cells #[.int .u64 ((s1 : Nat) : Int), .int .u64 ((e1 : Nat) : Int), .int .u8 ((l1 : Nat) : Int)] 24 (0, 0))) := by show _ = _; rw [hw3, hk]; exact heap_alloc_new w2 _
  have HXg : Hid (w3.heap[g]? = some (.cells #[.int .u64 ((s0 : Nat) : Int), .int .u64 ((e0 : Nat) : Int), .int .u8 ((l0 : Nat) : Int)] 24 (0, 0))) := by
    show _ = _
    rw [hw3]
    exact (((Below.refl _ w2).alloc (Nat.le_refl _) _).block _ (Array.getElem?_eq_some_iff.1 (unhide HA2)).1).trans (unhide HA2)
  have HXr : Hid (w3.heap[w.heap.size]? = some (.cells #[.int .u64 0, .int .u64 0, .int .u8 0] 24 (0, 0))) := ((unhide HB4).block _ (Array.getElem?_eq_some_iff.1 (unhide HX0)).1).trans (unhide HX0)
  have HBr : Hid (Below w.heap.size w w3) := (unhide HB0).trans ((unhide HB4).mono (unhide HB0).size)
  clear HB3 HA2
  go_upto_region 3 with fail
  rw [← hw3, ← hk]
  clear hw3 hk
  have c0 : w3.cell? ⟨g, 0, none⟩ = some (.int .u64 ((s0 : Nat) : Int)) := cell_of_row _ _ 0 _ _ _ (unhide HXg)
  have c1 : w3.cell? ⟨g, 1, none⟩ = some (.int .u64 ((e0 : Nat) : Int)) := cell_of_row _ _ 1 _ _ _ (unhide HXg)
  have c2 : w3.cell? ⟨g, 2, none⟩ = some (.int .u8 ((l0 : Nat) : Int)) := cell_of_row _ _ 2 _ _ _ (unhide HXg)
  have m0 : w3.cell? ⟨k, 0, none⟩ = some (.int .u64 ((s1 : Nat) : Int)) := cell_of_row _ _ 0 _ _ _ (unhide HXk)
  have m1 : w3.cell? ⟨k, 1, none⟩ = some (.int .u64 ((e1 : Nat) : Int)) := cell_of_row _ _ 1 _ _ _ (unhide HXk)
  have m2 : w3.cell? ⟨k, 2, none⟩ = some (.int .u8 ((l1 : Nat) : Int)) := cell_of_row _ _ 2 _ _ _ (unhide HXk)
  have d0 : w3.cell? ⟨w.heap.size, 0, none⟩ = some (.int .u64 0) := cell_of_row _ _ 0 _ _ _ (unhide HXr)
  have d1 : w3.cell? ⟨w.heap.size, 1, none⟩ = some (.int .u64 0) := cell_of_row _ _ 1 _ _ _ (unhide HXr)
  have d2 : w3.cell? ⟨w.heap.size, 2, none⟩ = some (.int .u8 0) := cell_of_row _ _ 2 _ _ _ (unhide HXr)
  have f0 : w3.frozen? ⟨w.heap.size, 0, none⟩ = false := frozen_of_row _ _ _ _ _ (unhide HXr)
  have f1 : w3.frozen? ⟨w.heap.size, 1, none⟩ = false := frozen_of_row _ _ _ _ _ (unhide HXr)
  have f2 : w3.frozen? ⟨w.heap.size, 2, none⟩ = false := frozen_of_row _ _ _ _ _ (unhide HXr)
  go_cut [7] (fun z wx => z = .bool x ∧ wx = w3)
  case first =>
    cases X with
    | true => go_wp2_with fail; go_meet; exact ⟨by rw [unhide HXX]; rfl, rfl⟩
    | false => go_wp2_with fail; go_meet; exact ⟨by rw [unhide HXX]; rfl, rfl⟩
  obtain ⟨rfl, rfl⟩ := hcut
  go_upto_region 4 with fail
  go_cut [9] (fun z wx => z = .bool y ∧ wx = wc)
  case first =>
    cases Y with
    | true => go_wp2_with fail; go_meet; exact ⟨by rw [unhide HYY]; rfl, rfl⟩
    | false => go_wp2_with fail; go_meet; exact ⟨by rw [unhide HYY]; rfl, rfl⟩
  obtain ⟨rfl, rfl⟩ := hcut
  clear HX HY HXX HYY
  cases x <;> cases y
  · go_wp2_with fail
    refine bodyPost_ret (results_ct rfl _ _ _ _ _ _ _ rfl (set3_heap (unhide HXr) _ _ _) Try.underlying24 rfl (by kernel_rfl)) rfl ?_
    exact ⟨rfl, set3_below (unhide HBr) (Nat.le_refl _) _ _ _⟩
  · go_wp2_with fail
    refine bodyPost_ret (results_ct rfl _ _ _ _ _ _ _ rfl (set3_heap (unhide HXr) _ _ _) Try.underlying24 rfl (by kernel_rfl)) rfl ?_
    exact ⟨rfl, set3_below (unhide HBr) (Nat.le_refl _) _ _ _⟩
  · go_wp2_with fail
    refine bodyPost_ret (results_ct rfl _ _ _ _ _ _ _ rfl (set3_heap (unhide HXr) _ _ _) Try.underlying24 rfl (by kernel_rfl)) rfl ?_
    exact ⟨rfl, set3_below (unhide HBr) (Nat.le_refl _) _ _ _⟩
  · by_cases hlt : s1 > s0
    · have h1 : (s1 : Int) > (s0 : Int) := by omega
      have HD : Hid (decide (s1 > s0) = true) := decide_eq_true hlt
      go_wp2_with fail
      refine bodyPost_ret (results_ct rfl _ _ _ _ _ _ _ rfl (set3_heap (unhide HXr) _ _ _) Try.underlying24 rfl (by kernel_rfl)) rfl ?_
      exact ⟨rfl, set3_below (unhide HBr) (Nat.le_refl _) _ _ _⟩
    · have h1 : ¬ (s1 : Int) > (s0 : Int) := by omega
      have HD : Hid (decide (s1 > s0) = false) := decide_eq_false hlt
      go_wp2_with fail
      refine bodyPost_ret (results_ct rfl _ _ _ _ _ _ _ rfl (set3_heap (unhide HXr) _ _ _) Try.underlying24 rfl (by kernel_rfl)) rfl ?_
      exact ⟨rfl, set3_below (unhide HBr) (Nat.le_refl _) _ _ _⟩
end Go.Proofs.Ytoabpjdpdcpdlaa
