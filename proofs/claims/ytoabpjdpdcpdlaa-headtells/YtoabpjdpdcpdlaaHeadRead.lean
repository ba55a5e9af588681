/- The document's heads (foremanref05): Read. No statement of the seat is proved here. -/
import Derived.Test.YtoabpjdpdcpdlaaHeadRef2
import Derived.Test.YtoabpjdpdcpdlaaGen2
namespace Go.Proofs.Ytoabpjdpdcpdlaa
open Go.RowKit

/-- A struct in a cell and a word in a slot are handed back. -/
theorem results_ct {P : Program} {fn : Func} {p u : Tmp} {ty : TypeId} (h : fn.results = #[.cell p ty, .tmp u]) (tmps : Array Value) (w : World) (g : Nat) (t : TypeId) (cs : Array Value) (fr : Nat × Nat) (d : TypeDesc)
    (hp : tmps.getD p undef = .pointer (some ⟨g, 0, none⟩)) (hg : w.heap[g]? = some (.cells cs t fr))
    (hu : P.underlying ty = some d) (hd : (match d with | .struct _ | .array _ _ => true | _ => false) = true) (hi : (P.info? ty).map (·.size) = some cs.size) :
    (results fn tmps).run P w = .ok (.tuple #[.agg cs, tmps.getD u undef]) w := by
  have hp' : tmps[p]?.getD undef = .pointer (some ⟨g, 0, none⟩) := by simpa using hp
  simp only [results, h]
  simp [Result.andThen, hp', asAddr, run_loadVar_row w g t ty cs fr d hg hu hd hi]
theorem set3_heap {W : World} {g : Nat} {v0 v1 v2 : Value} {t : TypeId} (h : W.heap[g]? = some (.cells #[v0, v1, v2] t (0, 0))) (x y z : Value) : (((W.setCell ⟨g, 0, none⟩ x).setCell ⟨g, 1, none⟩ y).setCell ⟨g, 2, none⟩ z).heap[g]? = some (.cells #[x, y, z] t (0, 0)) := by
  rw [heap_setCell_same _ _ _ _ _ _ (heap_setCell_same _ _ _ _ _ _ (heap_setCell_same _ _ _ _ _ _ h))]; rfl
theorem set3_below {w W : World} {g : Nat} (h : Below w.heap.size w W) (hg : w.heap.size ≤ g) (x y z : Value) : Below w.heap.size w (((W.setCell ⟨g, 0, none⟩ x).setCell ⟨g, 1, none⟩ y).setCell ⟨g, 2, none⟩ z) := ((h.setCell (p := ⟨g, 0, none⟩) hg x).setCell (p := ⟨g, 1, none⟩) hg y).setCell (p := ⟨g, 2, none⟩) hg z

theorem readH_no {b : List UInt8} (h : isHead b = false) : readH b = ⟨0, 0, 0⟩ := if_neg (by rw [h]; decide)
theorem readH_is {b : List UInt8} (h : isHead b = true) : readH b = headOf b := if_pos h

theorem all_step {b : List UInt8} {j : Nat} (h1 : 17 ≤ j) (h2 : j < b.length) : ((b.drop 17).take (j + 1 - 17)).all (· == 0) = (((b.drop 17).take (j - 17)).all (· == 0) && (b.getD j 0 == 0)) := by
  have hl : j - 17 < (b.drop 17).length := by rw [List.length_drop]; omega
  rw [show j + 1 - 17 = (j - 17) + 1 by omega, List.take_succ_eq_append_getElem hl, List.all_append]
  congr 1
  have e : (b.drop 17)[j - 17] = b.getD j 0 := by
    rw [List.getElem_drop, List.getD_eq_getElem?_getD]
    have e2 : b[j]? = some (b[17 + (j - 17)]'(by omega)) := by rw [List.getElem?_eq_some_iff]; exact ⟨h2, by congr 1; omega⟩
    rw [e2]
    rfl
  simp [e]
theorem all7 {l : List UInt8} (h : l.length = 7) : l.all (· == 0) = (l == [0, 0, 0, 0, 0, 0, 0]) := by
  rw [Bool.eq_iff_iff, List.all_eq_true, beq_iff_eq, show ([0, 0, 0, 0, 0, 0, 0] : List UInt8) = List.replicate 7 0 from rfl, List.eq_replicate_iff]
  simp [h]

set_option maxHeartbeats 2000000 in
theorem refHRead_short (a : Option Addr) (n c : Nat) (b : List UInt8) (w : World) (h : Bytes w (.slice a n c) b) (hn : n ≠ 32) : Calls Try.prog 13 #[.slice a n c] w fun e w' => e = .returned (.tuple #[(readH b).val, .bool (isHead b)]) ∧ Below w.heap.size w w' := by
  have hl := (bytes_len h).1
  have hi : isHead b = false := by
    rw [← Bool.not_eq_true]
    intro h1
    have := (isHead_iff.1 h1).1
    omega
  rw [readH_no hi, hi]
  have g1 : ¬ (n : Int) = 32 := by omega
  have g2 : ((n : Int) == 32) = false := beq_eq_false_iff_ne.2 g1
  have g3 : ((n : Int) != 32) = true := bne_iff_ne.2 g1
  have HB : Hid (Below w.heap.size w (w.alloc (.cells #[.int .u64 0, .int .u64 0, .int .u8 0] 24))) := (Below.refl _ w).alloc (Nat.le_refl _) _
  clear h hl hi hn
  go_enter Try.func13, Try.ntmps13
  go_wp2_with fail
  refine bodyPost_ret (results_ct rfl _ _ _ _ _ _ _ rfl (heap_alloc_new w _) Try.underlying24 rfl (by kernel_rfl)) rfl ?_
  exact ⟨rfl, unhide HB⟩

set_option maxRecDepth 100000 in
set_option maxHeartbeats 8000000 in
theorem refHRead_long (bb o c : Nat) (b : List UInt8) (w : World) (h : Bytes w (.slice (some ⟨bb, o, none⟩) 32 c) b) : Calls Try.prog 13 #[.slice (some ⟨bb, o, none⟩) 32 c] w fun e w' => e = .returned (.tuple #[(readH b).val, .bool (isHead b)]) ∧ Below w.heap.size w w' := by
  obtain ⟨hl, hc⟩ := bytes_len h
  obtain ⟨w0, hw0⟩ : ∃ w0, w0 = w.alloc (.cells #[.int .u64 0, .int .u64 0, .int .u8 0] 24) := ⟨_, rfl⟩
  have HB0 : Hid (Below w.heap.size w w0) := by show Below _ _ _; rw [hw0]; exact (Below.refl _ w).alloc (Nat.le_refl _) _
  have HX0 : Hid (w0.heap[w.heap.size]? = some (.cells #[.int .u64 0, .int .u64 0, .int .u8 0] 24 (0, 0))) := by show _ = _; rw [hw0]; exact heap_alloc_new w _
  have h0 : Bytes w0 (.slice (some ⟨bb, o, none⟩) 32 c) b := h.kept fun k _ hk => (unhide HB0).block k hk
  obtain ⟨s0, k0, B0, p0, p0', _⟩ := slice_mid (l := 0) (h := 8) h0 (by omega) (by omega)
  obtain ⟨s1, k1, B1, p1, p1', _⟩ := slice_mid (l := 8) (h := 16) h0 (by omega) (by omega)
  obtain ⟨s3, k3, B3, p3, p3', _⟩ := slice_mid (l := 24) (h := 32) h0 (by omega) (by omega)
  replace p0 : ∀ W : World, (Instr.slice 25 (.slice (some ⟨bb, o, none⟩) 32 c) (some (.int .i64 0)) (some (.int .i64 8)) none).run Try.prog W = .ok (.slice s0 8 k0) W := fun W => p0 W
  replace p0' : ∀ W : World, (Instr.sliceAt 25 (.slice (some ⟨bb, o, none⟩) 32 c) (some (.int .i64 0)) (some (.int .i64 8)) none).run Try.prog W = .ok (.slice s0 8 k0) W := fun W => p0' W
  replace p1 : ∀ W : World, (Instr.slice 25 (.slice (some ⟨bb, o, none⟩) 32 c) (some (.int .i64 8)) (some (.int .i64 16)) none).run Try.prog W = .ok (.slice s1 8 k1) W := fun W => p1 W
  replace p1' : ∀ W : World, (Instr.sliceAt 25 (.slice (some ⟨bb, o, none⟩) 32 c) (some (.int .i64 8)) (some (.int .i64 16)) none).run Try.prog W = .ok (.slice s1 8 k1) W := fun W => p1' W
  replace p3 : ∀ W : World, (Instr.slice 25 (.slice (some ⟨bb, o, none⟩) 32 c) (some (.int .i64 24)) (some (.int .i64 32)) none).run Try.prog W = .ok (.slice s3 8 k3) W := fun W => p3 W
  replace p3' : ∀ W : World, (Instr.sliceAt 25 (.slice (some ⟨bb, o, none⟩) 32 c) (some (.int .i64 24)) (some (.int .i64 32)) none).run Try.prog W = .ok (.slice s3 8 k3) W := fun W => p3' W
  have H0 : Hid (Bytes w0 (.slice s0 8 k0) (b.take 8)) := by show Bytes _ _ _; simpa using B0
  have H1 : Hid (Bytes w0 (.slice s1 8 k1) ((b.drop 8).take 8)) := B1
  have H3 : Hid (Bytes w0 (.slice s3 8 k3) ((b.drop 24).take 8)) := B3
  obtain ⟨S, hS⟩ : ∃ S, S = le (b.take 8) := ⟨_, rfl⟩
  obtain ⟨E, hE⟩ : ∃ E, E = le ((b.drop 8).take 8) := ⟨_, rfl⟩
  obtain ⟨L, hL⟩ : ∃ L, L = (b.getD 16 0).toNat := ⟨_, rfl⟩
  have HS := hide hS
  have HE := hide hE
  have HL := hide hL
  have c16 : w0.cell? ⟨bb, o + 16, none⟩ = some (.int .u8 ((L : Nat) : Int)) := by
    obtain ⟨b', o', e', hc'⟩ := h0.spot (by omega)
    cases e'
    rw [hL]
    exact hc' 16 (by omega)
  have HKS : Hid (∀ W, Below w0.heap.size w0 W → W.cell? ⟨bb, o + 16, none⟩ = some (.int .u8 ((L : Nat) : Int)) ∧ Below w0.heap.size w0 W) := fun W hb =>
    ⟨(hb.cell (p := ⟨bb, o + 16, none⟩) (World.block_lt_of_cell? _ _ c16)).trans c16, hb⟩
  have HC : Hid (∀ i, i < 32 → w0.cell? ⟨bb, o + i, none⟩ = some (.int .u8 ((b.getD i 0).toNat : Nat))) := by
    obtain ⟨b', o', e', hc'⟩ := h0.spot (by omega)
    cases e'
    exact hc'
  have HLB := hide hl
  clear h B0 B1 B3 h0 hS hE hL hl
  go_enter Try.func13, Try.ntmps13
  go_upto_region 3 with fail
  rw [← hw0]
  have HW0 := hide hw0
  clear hw0
  have tok1 : True := trivial
  go_cut [4] (fun p wx => ∃ g : Nat, p = .pointer (some ⟨g, 0, none⟩) ∧ w0.heap.size ≤ g ∧ wx.heap[g]? = some (.cells #[.int .u64 ((S : Nat) : Int), .int .u64 ((E : Nat) : Int), .int .u8 ((L : Nat) : Int)] 24 (0, 0)) ∧ Below w0.heap.size w0 wx)
  case first =>
    go_region_held3 (fun W => W.cell? ⟨bb, o + 16, none⟩ = some (.int .u8 ((L : Nat) : Int)) ∧ Below w0.heap.size w0 W)
      ((refine unhide HKS _ ?_; first | assumption | exact (Below.refl _ _).drew | exact ((Below.refl _ _).alloc (Nat.le_refl _) _).drew | exact (by assumption : _ ∧ Below w0.heap.size w0 _).2.alloc (by assumption : _ ∧ Below w0.heap.size w0 _).2.size _))
      (first
        | (have _t := tok1; go_at_call 36; clear tok1; refine (refNumber8_any s0 k0 (b.take 8) _ ((unhide H0).kept fun k _ hk => (by assumption : _ ∧ Below w0.heap.size w0 _).2.block k hk)).mono ?_; rintro e w' ⟨rfl, rfl⟩; rw [← unhide HS])
        | (go_at_call 36; refine (refNumber8_any s1 k1 ((b.drop 8).take 8) _ ((unhide H1).kept fun k _ hk => (by assumption : _ ∧ Below w0.heap.size w0 _).2.block k hk)).mono ?_; rintro e w' ⟨rfl, rfl⟩; rw [← unhide HE]))
    all_goals (
      go_wp2_with fail
      go_meet
      exact ⟨_, rfl, Nat.le_refl _, (by exact heap_alloc_new w0 _), ((Below.refl _ _).alloc (Nat.le_refl _) _).drew⟩)
  obtain ⟨g, rfl, hg, hX, hB⟩ := hcut
  have HG := hide hg
  have HX := hide hX
  have HB := hide hB
  clear hg hX hB HKS c16 p0 p0' p1 p1' H0 H1
  generalize wc = w1 at *
  obtain ⟨R, hR⟩ : ∃ R, R = (HeadD.mk S E L).right := ⟨_, rfl⟩
  have HR := hide hR
  clear hR
  obtain ⟨ok, hok⟩ : ∃ ok, ok = (R && (le ((b.drop 24).take 8) == S)) := ⟨_, rfl⟩
  have c0 : w1.cell? ⟨g, 0, none⟩ = some (.int .u64 ((S : Nat) : Int)) := cell_of_row _ _ 0 _ _ _ (unhide HX)
  have c1 : w1.cell? ⟨g, 1, none⟩ = some (.int .u64 ((E : Nat) : Int)) := cell_of_row _ _ 1 _ _ _ (unhide HX)
  have c2 : w1.cell? ⟨g, 2, none⟩ = some (.int .u8 ((L : Nat) : Int)) := cell_of_row _ _ 2 _ _ _ (unhide HX)
  have HKS : Hid (∀ W, Below w1.heap.size w1 W → W.cell? ⟨g, 0, none⟩ = some (.int .u64 ((S : Nat) : Int)) ∧ W.cell? ⟨g, 1, none⟩ = some (.int .u64 ((E : Nat) : Int)) ∧ W.cell? ⟨g, 2, none⟩ = some (.int .u8 ((L : Nat) : Int)) ∧ Below w1.heap.size w1 W) := fun W hb =>
    ⟨(hb.cell (p := ⟨g, 0, none⟩) (World.block_lt_of_cell? _ _ c0)).trans c0, (hb.cell (p := ⟨g, 1, none⟩) (World.block_lt_of_cell? _ _ c1)).trans c1, (hb.cell (p := ⟨g, 2, none⟩) (World.block_lt_of_cell? _ _ c2)).trans c2, hb⟩
  have H3' : Hid (Bytes w1 (.slice s3 8 k3) ((b.drop 24).take 8)) := (unhide H3).kept fun k _ hk => (unhide HB).block k hk
  obtain ⟨Z, hZ⟩ : ∃ Z, Z = le ((b.drop 24).take 8) := ⟨_, rfl⟩
  have HZ := hide hZ
  rw [← hZ] at hok
  have hok2 : ok = (R && ((Z : Int) == (S : Int))) := by rw [hok]; congr 1; rw [Bool.eq_iff_iff, beq_iff_eq, beq_iff_eq]; omega
  have HOK := hide hok
  have HOK2 := hide hok2
  clear hZ hok hok2 H3
  go_upto_region 4 with fail
  go_cut [5] (fun v wx => v = .bool ok ∧ Below w1.heap.size w1 wx)
  case first =>
    cases R with
    | true =>
      go_region_held3 (fun W => W.cell? ⟨g, 0, none⟩ = some (.int .u64 ((S : Nat) : Int)) ∧ W.cell? ⟨g, 1, none⟩ = some (.int .u64 ((E : Nat) : Int)) ∧ W.cell? ⟨g, 2, none⟩ = some (.int .u8 ((L : Nat) : Int)) ∧ Below w1.heap.size w1 W)
        ((refine unhide HKS _ ?_; first | assumption | exact (Below.refl _ _).drew))
        (first
          | (go_at_call 18; refine (refRight_any S E L _).mono ?_; rintro e w2 ⟨rfl, hb2⟩; rw [← unhide HR]; have hB2 := (by assumption : _ ∧ _ ∧ _ ∧ Below w1.heap.size w1 _).2.2.2.trans (hb2.mono (by assumption : _ ∧ _ ∧ _ ∧ Below w1.heap.size w1 _).2.2.2.size); clear hb2)
          | (go_at_call 36; refine (refNumber8_any s3 k3 ((b.drop 24).take 8) _ ((unhide H3').kept fun k _ hk => (by assumption : _ ∧ _ ∧ _ ∧ Below w1.heap.size w1 _).2.2.2.block k hk)).mono ?_; rintro e w' ⟨rfl, rfl⟩; rw [← unhide HZ]))
      all_goals (
        go_wp2_with fail
        go_meet
        exact ⟨by rw [unhide HOK2]; rfl, hB2⟩)
    | false =>
      first
        | go_region_with (go_at_call 18; refine (refRight_any S E L _).mono ?_; rintro e w2 ⟨rfl, hb2⟩; rw [← unhide HR]; have hB2 : Below w1.heap.size w1 w2 := (Below.refl _ w1).drew.trans hb2; clear hb2)
        | fail "no"
      all_goals (
        go_wp2_with fail
        go_meet
        exact ⟨by rw [unhide HOK2]; rfl, hB2⟩)
  obtain ⟨rfl, hB2⟩ := hcut
  have HB2 := hide hB2
  have HX2 : Hid (wc.heap[g]? = some (.cells #[.int .u64 ((S : Nat) : Int), .int .u64 ((E : Nat) : Int), .int .u8 ((L : Nat) : Int)] 24 (0, 0))) := (hB2.block _ (Array.getElem?_eq_some_iff.1 (unhide HX)).1).trans (unhide HX)
  have HC2 : Hid (∀ i, i < 32 → wc.cell? ⟨bb, o + i, none⟩ = some (.int .u8 ((b.getD i 0).toNat : Nat))) := fun i hi =>
    (((unhide HB).trans (hB2.mono (unhide HB).size)).cell (p := ⟨bb, o + i, none⟩) (World.block_lt_of_cell? _ _ (unhide HC i hi))).trans (unhide HC i hi)
  have HB3 : Hid (Below w0.heap.size w0 wc) := (unhide HB).trans (hB2.mono (unhide HB).size)
  clear hB2 c0 c1 c2 HKS H3' HX HC HB HB2 HOK2
  generalize wc = w2 at *
  go_wp2_with fail
  go_loopw [5, 6] (fun v i W => ∃ j : Nat, 17 ≤ j ∧ j ≤ 24 ∧ i = .int .i64 ((j : Nat) : Int) ∧ v = .bool (ok && ((b.drop 17).take (j - 17)).all (· == 0)) ∧ W = w2) (fun _ i _ => 24 - (intOf i).toNat)
  case atStart => exact ⟨17, by omega, by omega, rfl, by simp, rfl⟩
  case round =>
    obtain ⟨j, hj1, hj2, rfl, rfl, rfl⟩ := hrel
    obtain ⟨B, hB⟩ : ∃ B, B = (ok && ((b.drop 17).take (j - 17)).all (· == 0)) := ⟨_, rfl⟩
    rw [← hB]
    have HBB := hide hB
    clear hB
    by_cases hlt : j < 24
    · have HN : Hid ((ok && ((b.drop 17).take (j + 1 - 17)).all (· == 0)) = (B && (b.getD j 0 == 0))) := by
        show _ = _
        rw [all_step hj1 (by have := unhide HLB; omega), unhide HBB, Bool.and_assoc]
      have hcj := unhide HC2 j (by omega)
      have HY : Hid ((b.getD j 0 == 0) = (((b.getD j 0).toNat : Int) == 0)) := by
        show _ = _
        rw [Bool.eq_iff_iff, beq_iff_eq, beq_iff_eq]
        constructor
        · intro h; rw [h]; rfl
        · intro h; exact UInt8.toNat_inj.1 (by have : (b.getD j 0).toNat = 0 := by omega
                                               rw [this]; rfl)
      have hyl := (b.getD j 0).toNat_lt
      generalize (b.getD j 0).toNat = y at *
      have l1 : (j : Int) < 24 := by omega
      have l2 : ¬ (j : Int) < 0 := by omega
      have l3 : (j : Int) < 32 := by omega
      have l4 : ¬ (32 : Int) ≤ (j : Int) := by omega
      have hw1 : IntKind.i64.wrap ((j : Int) + 1) = ((j + 1 : Nat) : Int) := by rw [IntKind.wrap_i64]; omega
      cases B with
      | true =>
        go_wp2_with fail
        exact ⟨⟨j + 1, by omega, by omega, by go_num, by rw [unhide HN, unhide HY]; rfl, trivial⟩, by simp [intOf]; omega⟩
      | false =>
        go_wp2_with fail
        exact ⟨⟨j + 1, by omega, by omega, by go_num, by rw [unhide HN]; rfl, trivial⟩, by simp [intOf]; omega⟩
    · have e : j = 24 := by omega
      subst e
      have HI : Hid (isHead b = B) := by
        show _ = _
        rw [unhide HBB, unhide HOK, unhide HR, unhide HZ, all7 (by rw [List.length_take, List.length_drop]; have := unhide HLB; omega)]
        unfold isHead
        rw [show (b.length == 32) = true from beq_iff_eq.2 (unhide HLB), Bool.true_and]
        show ((headOf b).right && _ && _) = _
        rw [unhide HS, unhide HE, unhide HL]
        rfl
      have HXr : Hid (wr.heap[w.heap.size]? = some (.cells #[.int .u64 0, .int .u64 0, .int .u8 0] 24 (0, 0))) := ((unhide HB3).block _ (Array.getElem?_eq_some_iff.1 (unhide HX0)).1).trans (unhide HX0)
      have HBr : Hid (Below w.heap.size w wr) := (unhide HB0).trans ((unhide HB3).mono (unhide HB0).size)
      have c0 : wr.cell? ⟨g, 0, none⟩ = some (.int .u64 ((S : Nat) : Int)) := cell_of_row _ _ 0 _ _ _ (unhide HX2)
      have c1 : wr.cell? ⟨g, 1, none⟩ = some (.int .u64 ((E : Nat) : Int)) := cell_of_row _ _ 1 _ _ _ (unhide HX2)
      have c2 : wr.cell? ⟨g, 2, none⟩ = some (.int .u8 ((L : Nat) : Int)) := cell_of_row _ _ 2 _ _ _ (unhide HX2)
      have d0 : wr.cell? ⟨w.heap.size, 0, none⟩ = some (.int .u64 0) := cell_of_row _ _ 0 _ _ _ (unhide HXr)
      have d1 : wr.cell? ⟨w.heap.size, 1, none⟩ = some (.int .u64 0) := cell_of_row _ _ 1 _ _ _ (unhide HXr)
      have d2 : wr.cell? ⟨w.heap.size, 2, none⟩ = some (.int .u8 0) := cell_of_row _ _ 2 _ _ _ (unhide HXr)
      have f0 : wr.frozen? ⟨w.heap.size, 0, none⟩ = false := frozen_of_row _ _ _ _ _ (unhide HXr)
      have f1 : wr.frozen? ⟨w.heap.size, 1, none⟩ = false := frozen_of_row _ _ _ _ _ (unhide HXr)
      have f2 : wr.frozen? ⟨w.heap.size, 2, none⟩ = false := frozen_of_row _ _ _ _ _ (unhide HXr)
      cases B with
      | true =>
        have HV : Hid ((readH b).val = .agg #[.int .u64 ((S : Nat) : Int), .int .u64 ((E : Nat) : Int), .int .u8 ((L : Nat) : Int)]) := by
          show _ = _
          rw [readH_is (unhide HI), unhide HS, unhide HE, unhide HL]; rfl
        go_wp2_with fail
        refine bodyPost_ret (results_ct rfl _ _ _ _ _ _ _ rfl (set3_heap (unhide HXr) _ _ _) Try.underlying24 rfl (by kernel_rfl)) rfl ?_
        exact ⟨by rw [unhide HV, unhide HI]; rfl, set3_below (unhide HBr) (Nat.le_refl _) _ _ _⟩
      | false =>
        have HV : Hid ((readH b).val = .agg #[.int .u64 0, .int .u64 0, .int .u8 0]) := by
          show _ = _
          rw [readH_no (unhide HI)]; rfl
        go_wp2_with fail
        refine bodyPost_ret (results_ct rfl _ _ _ _ _ _ _ rfl (set3_heap (unhide HXr) _ _ _) Try.underlying24 rfl (by kernel_rfl)) rfl ?_
        exact ⟨by rw [unhide HV, unhide HI]; rfl, set3_below (unhide HBr) (Nat.le_refl _) _ _ _⟩

theorem refHRead_any (u : Value) (b : List UInt8) (w : World) (h : Bytes w u b) : Calls Try.prog 13 #[u] w fun e w' => e = .returned (.tuple #[(readH b).val, .bool (isHead b)]) ∧ Below w.heap.size w w' := by
  obtain ⟨a, c, rfl, _⟩ := h.form
  by_cases hn : b.length = 32
  · rw [hn] at h ⊢
    obtain ⟨bb, o, rfl, _⟩ := h.spot (by omega)
    exact refHRead_long bb o c b w h
  · exact refHRead_short a _ c b w h hn
end Go.Proofs.Ytoabpjdpdcpdlaa
