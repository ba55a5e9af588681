/- What Pick of package head answers. No statement of the seat is proved here. -/
import Derived.Test.YtoabpjdpdcpdlaaHeadImplR
namespace Go.Proofs.Ytoabpjdpdcpdlaa
open Go.RowKit

/-- An array's element, its run laid. -/
theorem wpList_index2 {P : Program} {w : World} {ops : Array Oper} {rest : List Oper} {op : Oper} {a : Act} {Q : Exit → Act → World → Prop} (hgd : op.guard = none) (x i : Operand) (t : TypeId) (ho : op.op = .index t x i) (v iv u : Value) (hx : a.eval x = v) (hi : a.eval i = iv)
    (hrun : (Instr.index t v iv).run P w = .ok u w) (h : wpList P ops Q rest (a.put op.dst u) w) : wpList P ops Q (op :: rest) a w := by
  refine wpList_plain hgd fun K hK => ?_
  unfold Oper.wp execOp
  simp only [ho, hx, hi, Sem.run_bind, hrun, Result.andThen_ok]
  exact hK _ _ h

theorem readH_fits (b : List UInt8) : (readH b).fits := by
  cases h : isHead b with
  | true => rw [readH_is h]; exact (bytes_read h).1
  | false => rw [readH_no h]; exact ⟨by decide, by decide, by decide⟩

/-- One slot more is looked at. -/
def better (best : HeadD) (b : List UInt8) (slot : Nat) : HeadD := if (isHead b && (readH b).s % 2 == slot && decide (best.s < (readH b).s)) then readH b else best
def bestOf (zero one : List UInt8) : Nat → HeadD
  | 0 => ⟨0, 0, 0⟩
  | 1 => better ⟨0, 0, 0⟩ zero 0
  | _ => better (better ⟨0, 0, 0⟩ zero 0) one 1
theorem best_fits (zero one : List UInt8) (j : Nat) : (bestOf zero one j).fits := by
  have h0 : (HeadD.mk 0 0 0).fits := ⟨by decide, by decide, by decide⟩
  have hb : ∀ (B : HeadD) b k, B.fits → (better B b k).fits := fun B b k hB => by
    unfold better
    split
    · exact readH_fits b
    · exact hB
  match j with
  | 0 => exact h0
  | 1 => exact hb _ _ _ h0
  | _ + 2 => exact hb _ _ _ (hb _ _ _ h0)
theorem best_pick (zero one : List UInt8) : bestOf zero one 2 = pickV zero one ∧ (bestOf zero one 2).right = (pickH zero one).isSome := by
  have r : ∀ b, isHead b = true → (readH b).right = true ∧ (readH b).s ≠ 0 := fun b h => by
    rw [readH_is h]
    exact ⟨(bytes_read h).2.1, (HeadD.right_iff.1 (bytes_read h).2.1).1⟩
  have z : (HeadD.mk 0 0 0).right = false := by decide
  unfold pickV
  rw [pickH_eq zero one _ _ rfl rfl]
  show better (better ⟨0, 0, 0⟩ zero 0) one 1 = _ ∧ (better (better ⟨0, 0, 0⟩ zero 0) one 1).right = _
  unfold better
  cases h0 : isHead zero with
  | false =>
    cases h1 : isHead one with
    | false => simp [z]
    | true =>
      obtain ⟨a, b⟩ := r one h1
      have p : 0 < (readH one).s := by omega
      by_cases c : (readH one).s % 2 = 1 <;> simp [c, p, a, z]
  | true =>
    obtain ⟨a0, b0⟩ := r zero h0
    have p0 : 0 < (readH zero).s := by omega
    cases h1 : isHead one with
    | false => by_cases c : (readH zero).s % 2 = 0 <;> simp [c, p0, a0, z]
    | true =>
      obtain ⟨a, b⟩ := r one h1
      have p : 0 < (readH one).s := by omega
      by_cases c : (readH zero).s % 2 = 0 <;> by_cases c2 : (readH one).s % 2 = 1 <;> by_cases c3 : (readH zero).s < (readH one).s <;> simp [c, c2, c3, p0, p, a0, a, z]

/-- The best one so far, in its block. -/
structure PickSt (w : World) (best : HeadD) (W : World) : Prop where
  res : W.heap[w.heap.size]? = some (.cells #[.int .u64 0, .int .u64 0, .int .u8 0] 24 (0, 0))
  best : W.heap[w.heap.size + 1]? = some (.cells #[.int .u64 ((best.s : Nat) : Int), .int .u64 ((best.e : Nat) : Int), .int .u8 ((best.l : Nat) : Int)] 24 (0, 0))
  bb : Below w.heap.size w W
theorem PickSt.start (w : World) : PickSt w ⟨0, 0, 0⟩ ((w.alloc (.cells #[.int .u64 0, .int .u64 0, .int .u8 0] 24)).alloc (.cells #[.int .u64 0, .int .u64 0, .int .u8 0] 24)) := by
  refine ⟨?_, ?_, ((Below.refl _ w).alloc (Nat.le_refl _) _).alloc (by simp) _⟩
  · rw [Below.heap_alloc _ _ _ (by simp), heap_alloc_new]
  · have e := heap_alloc_new (w.alloc (.cells #[.int .u64 0, .int .u64 0, .int .u8 0] 24)) (.cells #[.int .u64 0, .int .u64 0, .int .u8 0] 24)
    simpa using e
theorem PickSt.lt {w W : World} {best : HeadD} (h : PickSt w best W) : w.heap.size + 1 < W.heap.size := (Array.getElem?_eq_some_iff.1 h.best).1
theorem PickSt.later {w W W' : World} {best : HeadD} (h : PickSt w best W) (hb : Below W.heap.size W W') : PickSt w best W' :=
  ⟨(hb.block _ (by have := h.lt; omega)).trans h.res, (hb.block _ h.lt).trans h.best, h.bb.trans (hb.mono h.bb.size)⟩
theorem PickSt.alloc {w W : World} {best : HeadD} (h : PickSt w best W) (o : Obj) : PickSt w best (W.alloc o) := h.later ((Below.refl _ W).alloc (Nat.le_refl _) _)
theorem PickSt.set {w W : World} {best : HeadD} (h : PickSt w best W) (s e l : Nat) : PickSt w ⟨s, e, l⟩ (((W.setCell ⟨w.heap.size + 1, 0, none⟩ (.int .u64 ((s : Nat) : Int))).setCell ⟨w.heap.size + 1, 1, none⟩ (.int .u64 ((e : Nat) : Int))).setCell ⟨w.heap.size + 1, 2, none⟩ (.int .u8 ((l : Nat) : Int))) := by
  refine ⟨?_, set3_heap h.best _ _ _, set3_below h.bb (by omega) _ _ _⟩
  rw [Below.heap_setCell _ _ _ _ (by simp), Below.heap_setCell _ _ _ _ (by simp), Below.heap_setCell _ _ _ _ (by simp)]
  exact h.res

set_option maxRecDepth 100000 in
set_option maxHeartbeats 8000000 in
theorem hPick_any (u v : Value) (zero one : List UInt8) (w : World) (hu : Bytes w u zero) (hv : Bytes w v one) : Calls Try.prog 14 #[u, v] w fun e' w' => e' = .returned (.tuple #[(pickV zero one).val, .bool (pickH zero one).isSome]) ∧ Below w.heap.size w w' := by
  obtain ⟨a0, c0', hu0, _⟩ := hu.form
  obtain ⟨a1, c1', hv0, _⟩ := hv.form
  obtain ⟨n0, hn0⟩ : ∃ n, zero.length = n := ⟨_, rfl⟩
  obtain ⟨n1, hn1⟩ : ∃ n, one.length = n := ⟨_, rfl⟩
  rw [hn0] at hu0
  rw [hn1] at hv0
  subst hu0 hv0
  clear hn0 hn1
  have HI0 : Hid (∀ W : World, (Instr.index 84 (.agg #[.slice a0 n0 c0', .slice a1 n1 c1']) (.int .i64 0)).run Try.prog W = .ok (.slice a0 n0 c0') W) := fun W => by kernel_rfl
  have HI1 : Hid (∀ W : World, (Instr.index 84 (.agg #[.slice a0 n0 c0', .slice a1 n1 c1']) (.int .i64 1)).run Try.prog W = .ok (.slice a1 n1 c1') W) := fun W => by kernel_rfl
  have HU0 := hide hu
  have HV0 := hide hv
  have HST := hide (PickSt.start w)
  clear hu hv
  go_enter Try.func14, Try.ntmps14
  go_wp2_with fail
  go_loopw [14] (fun i W => ∃ j : Nat, j ≤ 2 ∧ i = .int .i64 j ∧ PickSt w (bestOf zero one j) W) (fun i _ => 2 - (intOf i).toNat)
  case atStart => exact ⟨0, by omega, rfl, unhide HST⟩
  case round =>
    obtain ⟨j, hj, rfl, hP⟩ := hrel
    obtain ⟨⟨S, E, L⟩, hBb⟩ : ∃ B, bestOf zero one j = B := ⟨_, rfl⟩
    rw [hBb] at hP
    have HP := hide hP
    clear hP
    rcases (show j = 0 ∨ j = 1 ∨ j = 2 by omega) with rfl | rfl | rfl
    · skip
      obtain ⟨⟨s, e, l⟩, hA⟩ : ∃ A, readH zero = A := ⟨_, rfl⟩
      obtain ⟨X, hX⟩ : ∃ X, isHead zero = X := ⟨_, rfl⟩
      have HA : Hid ((readH zero).val = .agg #[.int .u64 ((s : Nat) : Int), .int .u64 ((e : Nat) : Int), .int .u8 ((l : Nat) : Int)]) := by show _ = _; rw [hA]; rfl
      have HF : Hid (HeadD.mk s e l).fits := hA ▸ readH_fits zero
      have HN : Hid (bestOf zero one 1 = if (X && s % 2 == 0 && decide (S < s)) then ⟨s, e, l⟩ else ⟨S, E, L⟩) := by
        show better (bestOf zero one 0) zero 0 = _
        rw [hBb]
        unfold better
        rw [hX, hA]
      have HU : Hid (Bytes wr (.slice a0 n0 c0') zero) := (unhide HU0).kept fun k _ hk => (unhide HP).bb.block k hk
      have HX := hide hX
      clear hA hX
      clear hBb
      go_wp2_with (refine wpList_index2 rfl (.tmp 13) (.tmp 14) 84 rfl _ _ (.slice a0 n0 c0') rfl rfl (unhide HI0 _) ?_)
      refine (hRead_any (.slice a0 n0 c0') zero _ (unhide HU)).mono ?_
      rintro e' w1 ⟨rfl, hb1⟩
      rw [unhide HA, unhide HX]
      have HP1 := hide ((unhide HP).later hb1)
      clear hb1
      cases X with
      | false =>
        go_wp2_with fail
        exact ⟨⟨1, by omega, rfl, by rw [unhide HN]; exact (unhide HP1).alloc _⟩, by simp [intOf]⟩
      | true =>
        go_upto_region 6 with fail
        have HP2 := hide ((unhide HP1).alloc (.cells #[.int .u64 ((s : Nat) : Int), .int .u64 ((e : Nat) : Int), .int .u8 ((l : Nat) : Int)] 24))
        have HH2 := hide (heap_alloc_new w1 (.cells #[.int .u64 ((s : Nat) : Int), .int .u64 ((e : Nat) : Int), .int .u8 ((l : Nat) : Int)] 24))
        generalize w1.alloc (.cells #[.int .u64 ((s : Nat) : Int), .int .u64 ((e : Nat) : Int), .int .u8 ((l : Nat) : Int)] 24) = w2 at *
        generalize w1.heap.size = g at *
        have c0 : w2.cell? ⟨g, 0, none⟩ = some (.int .u64 ((s : Nat) : Int)) := cell_of_row _ _ 0 _ _ _ (unhide HH2)
        have c1 : w2.cell? ⟨g, 1, none⟩ = some (.int .u64 ((e : Nat) : Int)) := cell_of_row _ _ 1 _ _ _ (unhide HH2)
        have c2 : w2.cell? ⟨g, 2, none⟩ = some (.int .u8 ((l : Nat) : Int)) := cell_of_row _ _ 2 _ _ _ (unhide HH2)
        go_wp2_with fail
        refine (hSlot_any s e l _ (unhide HF)).mono ?_
        rintro e' w3 ⟨rfl, hb3⟩
        have HP3 := hide ((unhide HP2).later hb3)
        have hh3 := (hb3.block _ (Array.getElem?_eq_some_iff.1 (unhide HH2)).1).trans (unhide HH2)
        have c0 : w3.cell? ⟨g, 0, none⟩ = some (.int .u64 ((s : Nat) : Int)) := cell_of_row _ _ 0 _ _ _ hh3
        have c1 : w3.cell? ⟨g, 1, none⟩ = some (.int .u64 ((e : Nat) : Int)) := cell_of_row _ _ 1 _ _ _ hh3
        have c2 : w3.cell? ⟨g, 2, none⟩ = some (.int .u8 ((l : Nat) : Int)) := cell_of_row _ _ 2 _ _ _ hh3
        have d0 : w3.cell? ⟨w.heap.size + 1, 0, none⟩ = some (.int .u64 ((S : Nat) : Int)) := cell_of_row _ _ 0 _ _ _ (unhide HP3).best
        have d1 : w3.cell? ⟨w.heap.size + 1, 1, none⟩ = some (.int .u64 ((E : Nat) : Int)) := cell_of_row _ _ 1 _ _ _ (unhide HP3).best
        have d2 : w3.cell? ⟨w.heap.size + 1, 2, none⟩ = some (.int .u8 ((L : Nat) : Int)) := cell_of_row _ _ 2 _ _ _ (unhide HP3).best
        have f0 : w3.frozen? ⟨w.heap.size + 1, 0, none⟩ = false := frozen_of_row _ _ _ _ _ (unhide HP3).best
        have f1 : w3.frozen? ⟨w.heap.size + 1, 1, none⟩ = false := frozen_of_row _ _ _ _ _ (unhide HP3).best
        have f2 : w3.frozen? ⟨w.heap.size + 1, 2, none⟩ = false := frozen_of_row _ _ _ _ _ (unhide HP3).best
        clear hb3 hh3
        have hm : ((s % 2 : Nat) : Int) = (s : Int) % 2 := by omega
        by_cases h1 : s % 2 = 0
        · have g1 : ((s : Int) % 2 == 0) = true := beq_iff_eq.2 (by omega)
          have g1' : (s : Int) % 2 = 0 := by omega
          by_cases h2 : S < s
          · have g2 : (s : Int) > (S : Int) := by omega
            have HN2 : Hid (bestOf zero one 1 = ⟨s, e, l⟩) := by show _ = _; rw [unhide HN, if_pos (by simp [h1, h2])]
            clear h1 h2
            go_wp2_with fail
            exact ⟨⟨1, by omega, rfl, by rw [unhide HN2]; exact (unhide HP3).set s e l⟩, by simp [intOf]⟩
          · have g2 : ¬ (s : Int) > (S : Int) := by omega
            have HN2 : Hid (bestOf zero one 1 = ⟨S, E, L⟩) := by show _ = _; rw [unhide HN, if_neg (by simp [h2])]
            clear h1 h2
            go_wp2_with fail
            exact ⟨⟨1, by omega, rfl, by rw [unhide HN2]; exact unhide HP3⟩, by simp [intOf]⟩
        · have g1 : ((s : Int) % 2 == 0) = false := beq_eq_false_iff_ne.2 (by omega)
          have g1' : ¬ (s : Int) % 2 = 0 := by omega
          have HN2 : Hid (bestOf zero one 1 = ⟨S, E, L⟩) := by show _ = _; rw [unhide HN, if_neg (by simp [h1])]
          clear h1
          go_wp2_with fail
          exact ⟨⟨1, by omega, rfl, by rw [unhide HN2]; exact unhide HP3⟩, by simp [intOf]⟩
    · skip
      obtain ⟨⟨s, e, l⟩, hA⟩ : ∃ A, readH one = A := ⟨_, rfl⟩
      obtain ⟨X, hX⟩ : ∃ X, isHead one = X := ⟨_, rfl⟩
      have HA : Hid ((readH one).val = .agg #[.int .u64 ((s : Nat) : Int), .int .u64 ((e : Nat) : Int), .int .u8 ((l : Nat) : Int)]) := by show _ = _; rw [hA]; rfl
      have HF : Hid (HeadD.mk s e l).fits := hA ▸ readH_fits one
      have HN : Hid (bestOf zero one 2 = if (X && s % 2 == 1 && decide (S < s)) then ⟨s, e, l⟩ else ⟨S, E, L⟩) := by
        show better (bestOf zero one 1) one 1 = _
        rw [hBb]
        unfold better
        rw [hX, hA]
      have HU : Hid (Bytes wr (.slice a1 n1 c1') one) := (unhide HV0).kept fun k _ hk => (unhide HP).bb.block k hk
      have HX := hide hX
      clear hA hX
      clear hBb
      go_wp2_with (refine wpList_index2 rfl (.tmp 13) (.tmp 14) 84 rfl _ _ (.slice a1 n1 c1') rfl rfl (unhide HI1 _) ?_)
      refine (hRead_any (.slice a1 n1 c1') one _ (unhide HU)).mono ?_
      rintro e' w1 ⟨rfl, hb1⟩
      rw [unhide HA, unhide HX]
      have HP1 := hide ((unhide HP).later hb1)
      clear hb1
      cases X with
      | false =>
        go_wp2_with fail
        exact ⟨⟨2, by omega, rfl, by rw [unhide HN]; exact (unhide HP1).alloc _⟩, by simp [intOf]⟩
      | true =>
        go_upto_region 6 with fail
        have HP2 := hide ((unhide HP1).alloc (.cells #[.int .u64 ((s : Nat) : Int), .int .u64 ((e : Nat) : Int), .int .u8 ((l : Nat) : Int)] 24))
        have HH2 := hide (heap_alloc_new w1 (.cells #[.int .u64 ((s : Nat) : Int), .int .u64 ((e : Nat) : Int), .int .u8 ((l : Nat) : Int)] 24))
        generalize w1.alloc (.cells #[.int .u64 ((s : Nat) : Int), .int .u64 ((e : Nat) : Int), .int .u8 ((l : Nat) : Int)] 24) = w2 at *
        generalize w1.heap.size = g at *
        have c0 : w2.cell? ⟨g, 0, none⟩ = some (.int .u64 ((s : Nat) : Int)) := cell_of_row _ _ 0 _ _ _ (unhide HH2)
        have c1 : w2.cell? ⟨g, 1, none⟩ = some (.int .u64 ((e : Nat) : Int)) := cell_of_row _ _ 1 _ _ _ (unhide HH2)
        have c2 : w2.cell? ⟨g, 2, none⟩ = some (.int .u8 ((l : Nat) : Int)) := cell_of_row _ _ 2 _ _ _ (unhide HH2)
        go_wp2_with fail
        refine (hSlot_any s e l _ (unhide HF)).mono ?_
        rintro e' w3 ⟨rfl, hb3⟩
        have HP3 := hide ((unhide HP2).later hb3)
        have hh3 := (hb3.block _ (Array.getElem?_eq_some_iff.1 (unhide HH2)).1).trans (unhide HH2)
        have c0 : w3.cell? ⟨g, 0, none⟩ = some (.int .u64 ((s : Nat) : Int)) := cell_of_row _ _ 0 _ _ _ hh3
        have c1 : w3.cell? ⟨g, 1, none⟩ = some (.int .u64 ((e : Nat) : Int)) := cell_of_row _ _ 1 _ _ _ hh3
        have c2 : w3.cell? ⟨g, 2, none⟩ = some (.int .u8 ((l : Nat) : Int)) := cell_of_row _ _ 2 _ _ _ hh3
        have d0 : w3.cell? ⟨w.heap.size + 1, 0, none⟩ = some (.int .u64 ((S : Nat) : Int)) := cell_of_row _ _ 0 _ _ _ (unhide HP3).best
        have d1 : w3.cell? ⟨w.heap.size + 1, 1, none⟩ = some (.int .u64 ((E : Nat) : Int)) := cell_of_row _ _ 1 _ _ _ (unhide HP3).best
        have d2 : w3.cell? ⟨w.heap.size + 1, 2, none⟩ = some (.int .u8 ((L : Nat) : Int)) := cell_of_row _ _ 2 _ _ _ (unhide HP3).best
        have f0 : w3.frozen? ⟨w.heap.size + 1, 0, none⟩ = false := frozen_of_row _ _ _ _ _ (unhide HP3).best
        have f1 : w3.frozen? ⟨w.heap.size + 1, 1, none⟩ = false := frozen_of_row _ _ _ _ _ (unhide HP3).best
        have f2 : w3.frozen? ⟨w.heap.size + 1, 2, none⟩ = false := frozen_of_row _ _ _ _ _ (unhide HP3).best
        clear hb3 hh3
        have hm : ((s % 2 : Nat) : Int) = (s : Int) % 2 := by omega
        by_cases h1 : s % 2 = 1
        · have g1 : ((s : Int) % 2 == 1) = true := beq_iff_eq.2 (by omega)
          have g1' : (s : Int) % 2 = 1 := by omega
          by_cases h2 : S < s
          · have g2 : (s : Int) > (S : Int) := by omega
            have HN2 : Hid (bestOf zero one 2 = ⟨s, e, l⟩) := by show _ = _; rw [unhide HN, if_pos (by simp [h1, h2])]
            clear h1 h2
            go_wp2_with fail
            exact ⟨⟨2, by omega, rfl, by rw [unhide HN2]; exact (unhide HP3).set s e l⟩, by simp [intOf]⟩
          · have g2 : ¬ (s : Int) > (S : Int) := by omega
            have HN2 : Hid (bestOf zero one 2 = ⟨S, E, L⟩) := by show _ = _; rw [unhide HN, if_neg (by simp [h2])]
            clear h1 h2
            go_wp2_with fail
            exact ⟨⟨2, by omega, rfl, by rw [unhide HN2]; exact unhide HP3⟩, by simp [intOf]⟩
        · have g1 : ((s : Int) % 2 == 1) = false := beq_eq_false_iff_ne.2 (by omega)
          have g1' : ¬ (s : Int) % 2 = 1 := by omega
          have HN2 : Hid (bestOf zero one 2 = ⟨S, E, L⟩) := by show _ = _; rw [unhide HN, if_neg (by simp [h1])]
          clear h1
          go_wp2_with fail
          exact ⟨⟨2, by omega, rfl, by rw [unhide HN2]; exact unhide HP3⟩, by simp [intOf]⟩
    · skip
      rw [← hBb] at HP
      have HB := hide (best_pick zero one)
      have HFT := hide (best_fits zero one 2)
      rw [hBb] at HP HB HFT
      have HBB := hide hBb
      clear hBb
      have HV : Hid ((pickV zero one).val = .agg #[.int .u64 ((S : Nat) : Int), .int .u64 ((E : Nat) : Int), .int .u8 ((L : Nat) : Int)]) := by show _ = _; rw [← (unhide HB).1]; rfl
      obtain ⟨R, hR⟩ : ∃ R, (HeadD.mk S E L).right = R := ⟨_, rfl⟩
      have HR := hide hR
      have HR2 : Hid ((pickH zero one).isSome = R) := by show _ = _; rw [← (unhide HB).2, hR]
      clear hR
      go_upto_region 9 with fail
      have d0 : wr.cell? ⟨w.heap.size + 1, 0, none⟩ = some (.int .u64 ((S : Nat) : Int)) := cell_of_row _ _ 0 _ _ _ (unhide HP).best
      have d1 : wr.cell? ⟨w.heap.size + 1, 1, none⟩ = some (.int .u64 ((E : Nat) : Int)) := cell_of_row _ _ 1 _ _ _ (unhide HP).best
      have d2 : wr.cell? ⟨w.heap.size + 1, 2, none⟩ = some (.int .u8 ((L : Nat) : Int)) := cell_of_row _ _ 2 _ _ _ (unhide HP).best
      have r0 : wr.cell? ⟨w.heap.size, 0, none⟩ = some (.int .u64 0) := cell_of_row _ _ 0 _ _ _ (unhide HP).res
      have r1 : wr.cell? ⟨w.heap.size, 1, none⟩ = some (.int .u64 0) := cell_of_row _ _ 1 _ _ _ (unhide HP).res
      have r2 : wr.cell? ⟨w.heap.size, 2, none⟩ = some (.int .u8 0) := cell_of_row _ _ 2 _ _ _ (unhide HP).res
      have f0 : wr.frozen? ⟨w.heap.size, 0, none⟩ = false := frozen_of_row _ _ _ _ _ (unhide HP).res
      have f1 : wr.frozen? ⟨w.heap.size, 1, none⟩ = false := frozen_of_row _ _ _ _ _ (unhide HP).res
      have f2 : wr.frozen? ⟨w.heap.size, 2, none⟩ = false := frozen_of_row _ _ _ _ _ (unhide HP).res
      go_region_with ((go_at_call 17; refine (hRight_any S E L _ (unhide HFT)).mono ?_; rintro e' w4 ⟨rfl, hb4⟩; rw [unhide HR]; have HP4 := hide (((unhide HP).later (below_drewN wr _)).later hb4); clear hb4; have z0 : w4.cell? ⟨w.heap.size + 1, 0, none⟩ = some (.int .u64 ((S : Nat) : Int)) := cell_of_row _ _ 0 _ _ _ (unhide HP4).best; have z1 : w4.cell? ⟨w.heap.size + 1, 1, none⟩ = some (.int .u64 ((E : Nat) : Int)) := cell_of_row _ _ 1 _ _ _ (unhide HP4).best; have z2 : w4.cell? ⟨w.heap.size + 1, 2, none⟩ = some (.int .u8 ((L : Nat) : Int)) := cell_of_row _ _ 2 _ _ _ (unhide HP4).best; have x0 : w4.cell? ⟨w.heap.size, 0, none⟩ = some (.int .u64 0) := cell_of_row _ _ 0 _ _ _ (unhide HP4).res; have x1 : w4.cell? ⟨w.heap.size, 1, none⟩ = some (.int .u64 0) := cell_of_row _ _ 1 _ _ _ (unhide HP4).res; have x2 : w4.cell? ⟨w.heap.size, 2, none⟩ = some (.int .u8 0) := cell_of_row _ _ 2 _ _ _ (unhide HP4).res; have y0 : w4.frozen? ⟨w.heap.size, 0, none⟩ = false := frozen_of_row _ _ _ _ _ (unhide HP4).res; have y1 : w4.frozen? ⟨w.heap.size, 1, none⟩ = false := frozen_of_row _ _ _ _ _ (unhide HP4).res; have y2 : w4.frozen? ⟨w.heap.size, 2, none⟩ = false := frozen_of_row _ _ _ _ _ (unhide HP4).res))
      all_goals (
        go_wp2_with fail
        refine bodyPost_ret (results_ct rfl _ _ _ _ _ _ _ rfl (set3_heap (unhide HP4).res _ _ _) Try.underlying24 rfl (by kernel_rfl)) rfl ?_
        exact ⟨by rw [unhide HV, unhide HR2]; rfl, set3_below (unhide HP4).bb (Nat.le_refl _) _ _ _⟩)
end Go.Proofs.Ytoabpjdpdcpdlaa
