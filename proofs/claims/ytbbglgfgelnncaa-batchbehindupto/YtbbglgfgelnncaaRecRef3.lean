/- The document's records (foremanref03): Take. No statement of the seat is proved here. -/
import Derived.Test.YtbbglgfgelnncaaRecRef2
import Derived.Test.YtbbglgfgelnncaaGen2
namespace Go.Proofs.Ytbbglgfgelnncaa
open Go.RowKit

/-- What Take answers, in memory. -/
def TookAt (w : World) (b : List UInt8) (e : Ending) (w' : World) : Prop := ∃ a n c, e = .returned (.tuple #[.agg #[.int .u8 ((takeRec b).k.toNat : Nat), .slice a n c], .int .i64 (takeLen b : Nat), .int .i64 (takeErr b)]) ∧ FreshO w w' (.slice a n c) (takeRec b).d

theorem took_none {w w' : World} {b : List UInt8} {x : Int} (he : takeErr b = x) (hx : x ≠ 0) (hb : Below w.heap.size w w') : TookAt w b (.returned (.tuple #[.agg #[.int .u8 0, .slice none 0 0], .int .i64 0, .int .i64 x])) w' := by
  have h0 : ¬ takeErr b = 0 := by rw [he]; exact hx
  refine ⟨none, 0, 0, ?_, ?_⟩
  · have e1 : takeRec b = ⟨0, []⟩ := if_neg h0
    have e2 : takeLen b = 0 := if_neg h0
    rw [e1, e2, he]; rfl
  · have e1 : takeRec b = ⟨0, []⟩ := if_neg h0
    rw [e1]
    exact ⟨⟨.inl ⟨rfl, rfl⟩, fun k hk => (by cases hk), hb⟩, own_none _⟩

theorem set2_heap {W : World} {g : Nat} {v0 v1 : Value} {t : TypeId} (h : W.heap[g]? = some (.cells #[v0, v1] t (0, 0))) (x y : Value) : ((W.setCell ⟨g, 0, none⟩ x).setCell ⟨g, 1, none⟩ y).heap[g]? = some (.cells #[x, y] t (0, 0)) := by
  rw [heap_setCell_same _ _ _ _ _ _ (heap_setCell_same _ _ _ _ _ _ h)]; rfl
theorem set2_below {w W : World} {g : Nat} (h : Below w.heap.size w W) (hg : w.heap.size ≤ g) (x y : Value) : Below w.heap.size w ((W.setCell ⟨g, 0, none⟩ x).setCell ⟨g, 1, none⟩ y) := (h.setCell (p := ⟨g, 0, none⟩) hg x).setCell (p := ⟨g, 1, none⟩) hg y

section
variable (a : Option Addr) (n c : Nat) (b : List UInt8) (w : World)

set_option maxRecDepth 100000 in
set_option maxHeartbeats 4000000 in
theorem refTake_short (h : Bytes w (.slice a n c) b) (hn : n < 9) : Calls Try.prog 45 #[.slice a n c] w fun e w' => TookAt w b e w' := by
  have he : takeErr b = 32 := by unfold takeErr; rw [if_pos (by rw [(bytes_len h).1]; exact hn)]
  have HE := hide he
  have g1 : (n : Int) < 9 := by omega
  clear he h hn
  go_enter Try.func45, Try.ntmps45
  go_wp2_with fail
  refine bodyPost_ret (results_ctt rfl _ _ _ _ _ _ _ rfl (heap_alloc_new w _) Try.underlying49 rfl (by kernel_rfl)) rfl ?_
  exact took_none (unhide HE) (by decide) ((Below.refl _ w).alloc (Nat.le_refl _) _)

set_option maxRecDepth 100000 in
set_option maxHeartbeats 4000000 in
theorem refTake_long (h : Bytes w (.slice a n c) b) (hn : 9 ≤ n) (hlong : 4096 < le ((b.drop 5).take 4)) : Calls Try.prog 45 #[.slice a n c] w fun e w' => TookAt w b e w' := by
  obtain ⟨hl, hnc⟩ := bytes_len h
  obtain ⟨m, hm⟩ : ∃ m, m = le ((b.drop 5).take 4) := ⟨_, rfl⟩
  obtain ⟨s5, k5, B5, q5, q5', _⟩ := slice_mid (l := 5) (h := 9) h (by omega) (by omega)
  replace q5 : ∀ W : World, (Instr.slice 23 (.slice a n c) (some (.int .i64 5)) (some (.int .i64 9)) none).run Try.prog W = .ok (.slice s5 4 k5) W := fun W => q5 W
  replace q5' : ∀ W : World, (Instr.sliceAt 23 (.slice a n c) (some (.int .i64 5)) (some (.int .i64 9)) none).run Try.prog W = .ok (.slice s5 4 k5) W := fun W => q5' W
  have H5 : Hid (Bytes (w.alloc (.cells #[.int .u8 0, .slice none 0 0] 49)) (.slice s5 4 k5) ((b.drop 5).take 4)) := B5.alloc _
  have HM := hide hm
  have g1 : ¬ (n : Int) < 9 := by omega
  have he : takeErr b = 31 := by unfold takeErr; rw [if_neg (by omega), if_pos hlong]
  have HE := hide he
  have g2 : (m : Int) > 4096 := by omega
  clear hlong
  clear he h B5 hm
  go_enter Try.func45, Try.ntmps45
  go_wp2_with fail
  refine (refNumber_any s5 k5 _ _ (unhide H5)).mono ?_
  rintro e w2 ⟨rfl, hb2⟩
  rw [← unhide HM]
  have HX2 : Hid (w2.heap[w.heap.size]? = some (.cells #[.int .u8 0, .slice none 0 0] 49 (0, 0))) := (hb2.block w.heap.size (by simp)).trans (heap_alloc_new w _)
  have HB2 : Hid (Below w.heap.size w w2) := ((Below.refl _ w).alloc (Nat.le_refl _) _).trans (hb2.mono (by simp))
  have c0 : w2.cell? ⟨w.heap.size, 0, none⟩ = some (.int .u8 0) := cell_of_row _ _ 0 _ _ _ (unhide HX2)
  have c1 : w2.cell? ⟨w.heap.size, 1, none⟩ = some (.slice none 0 0) := cell_of_row _ _ 1 _ _ _ (unhide HX2)
  have f0 : w2.frozen? ⟨w.heap.size, 0, none⟩ = false := frozen_of_row _ _ _ _ _ (unhide HX2)
  have f1 : w2.frozen? ⟨w.heap.size, 1, none⟩ = false := frozen_of_row _ _ _ _ _ (unhide HX2)
  clear hb2 H5 q5 q5'
  go_wp2_with fail
  refine bodyPost_ret (results_ctt rfl _ _ _ _ _ _ _ rfl (set2_heap (unhide HX2) _ _) Try.underlying49 rfl (by kernel_rfl)) rfl ?_
  exact took_none (unhide HE) (by decide) (set2_below (unhide HB2) (Nat.le_refl _) _ _)

set_option maxRecDepth 100000 in
set_option maxHeartbeats 4000000 in
theorem refTake_torn (h : Bytes w (.slice a n c) b) (hn : 9 ≤ n) (hm1 : ¬ 4096 < le ((b.drop 5).take 4)) (hm2 : n < 9 + le ((b.drop 5).take 4)) : Calls Try.prog 45 #[.slice a n c] w fun e w' => TookAt w b e w' := by
  obtain ⟨hl, hnc⟩ := bytes_len h
  obtain ⟨m, hm⟩ : ∃ m, m = le ((b.drop 5).take 4) := ⟨_, rfl⟩
  obtain ⟨s5, k5, B5, q5, q5', _⟩ := slice_mid (l := 5) (h := 9) h (by omega) (by omega)
  replace q5 : ∀ W : World, (Instr.slice 23 (.slice a n c) (some (.int .i64 5)) (some (.int .i64 9)) none).run Try.prog W = .ok (.slice s5 4 k5) W := fun W => q5 W
  replace q5' : ∀ W : World, (Instr.sliceAt 23 (.slice a n c) (some (.int .i64 5)) (some (.int .i64 9)) none).run Try.prog W = .ok (.slice s5 4 k5) W := fun W => q5' W
  have H5 : Hid (Bytes (w.alloc (.cells #[.int .u8 0, .slice none 0 0] 49)) (.slice s5 4 k5) ((b.drop 5).take 4)) := B5.alloc _
  have HM := hide hm
  have g1 : ¬ (n : Int) < 9 := by omega
  have he : takeErr b = 32 := by unfold takeErr; rw [if_neg (by omega), if_neg hm1, if_pos (by omega)]
  have HE := hide he
  have g2 : ¬ (m : Int) > 4096 := by omega
  have g3 : (n : Int) < 9 + (m : Int) := by omega
  clear hm1 hm2
  clear he h B5 hm
  go_enter Try.func45, Try.ntmps45
  go_wp2_with fail
  refine (refNumber_any s5 k5 _ _ (unhide H5)).mono ?_
  rintro e w2 ⟨rfl, hb2⟩
  rw [← unhide HM]
  have HX2 : Hid (w2.heap[w.heap.size]? = some (.cells #[.int .u8 0, .slice none 0 0] 49 (0, 0))) := (hb2.block w.heap.size (by simp)).trans (heap_alloc_new w _)
  have HB2 : Hid (Below w.heap.size w w2) := ((Below.refl _ w).alloc (Nat.le_refl _) _).trans (hb2.mono (by simp))
  have c0 : w2.cell? ⟨w.heap.size, 0, none⟩ = some (.int .u8 0) := cell_of_row _ _ 0 _ _ _ (unhide HX2)
  have c1 : w2.cell? ⟨w.heap.size, 1, none⟩ = some (.slice none 0 0) := cell_of_row _ _ 1 _ _ _ (unhide HX2)
  have f0 : w2.frozen? ⟨w.heap.size, 0, none⟩ = false := frozen_of_row _ _ _ _ _ (unhide HX2)
  have f1 : w2.frozen? ⟨w.heap.size, 1, none⟩ = false := frozen_of_row _ _ _ _ _ (unhide HX2)
  clear hb2 H5 q5 q5'
  go_wp2_with fail
  refine bodyPost_ret (results_ctt rfl _ _ _ _ _ _ _ rfl (set2_heap (unhide HX2) _ _) Try.underlying49 rfl (by kernel_rfl)) rfl ?_
  exact took_none (unhide HE) (by decide) (set2_below (unhide HB2) (Nat.le_refl _) _ _)

set_option maxRecDepth 100000 in
set_option maxHeartbeats 8000000 in
theorem refTake_check (h : Bytes w (.slice a n c) b) (hn : 9 ≤ n) (hm1 : ¬ 4096 < le ((b.drop 5).take 4)) (hm2 : ¬ n < 9 + le ((b.drop 5).take 4)) (hs : sumB ((b.drop 4).take (5 + le ((b.drop 5).take 4))) ≠ le (b.take 4)) : Calls Try.prog 45 #[.slice a n c] w fun e w' => TookAt w b e w' := by
  obtain ⟨hl, hnc⟩ := bytes_len h
  obtain ⟨m, hm⟩ : ∃ m, m = le ((b.drop 5).take 4) := ⟨_, rfl⟩
  obtain ⟨s5, k5, B5, q5, q5', _⟩ := slice_mid (l := 5) (h := 9) h (by omega) (by omega)
  replace q5 : ∀ W : World, (Instr.slice 23 (.slice a n c) (some (.int .i64 5)) (some (.int .i64 9)) none).run Try.prog W = .ok (.slice s5 4 k5) W := fun W => q5 W
  replace q5' : ∀ W : World, (Instr.sliceAt 23 (.slice a n c) (some (.int .i64 5)) (some (.int .i64 9)) none).run Try.prog W = .ok (.slice s5 4 k5) W := fun W => q5' W
  have H5 : Hid (Bytes (w.alloc (.cells #[.int .u8 0, .slice none 0 0] 49)) (.slice s5 4 k5) ((b.drop 5).take 4)) := B5.alloc _
  have HM := hide hm
  have g1 : ¬ (n : Int) < 9 := by omega
  have g2 : ¬ (m : Int) > 4096 := by omega
  obtain ⟨E, hE⟩ : ∃ E : Nat, E = 9 + m := ⟨_, rfl⟩
  have g3 : ¬ (n : Int) < (E : Int) := by omega
  have g4 : IntKind.i64.wrap (9 + (m : Int)) = (E : Int) := by rw [IntKind.wrap_i64]; omega
  have g5 : 9 + (m : Int) = (E : Int) := by omega
  have g6 : IntKind.i64.wrap (E : Int) = (E : Int) := by rw [IntKind.wrap_i64]; omega
  obtain ⟨s4, k4, B4, q4, q4', _⟩ := slice_mid (l := 4) (h := E) h (by omega) (by omega)
  replace q4 : ∀ W : World, (Instr.slice 23 (.slice a n c) (some (.int .i64 4)) (some (.int .i64 (E : Int))) none).run Try.prog W = .ok (.slice s4 (E - 4) k4) W := fun W => q4 W
  replace q4' : ∀ W : World, (Instr.sliceAt 23 (.slice a n c) (some (.int .i64 4)) (some (.int .i64 (E : Int))) none).run Try.prog W = .ok (.slice s4 (E - 4) k4) W := fun W => q4' W
  obtain ⟨s0, k0, B0, q0, q0', _⟩ := slice_mid (l := 0) (h := 4) h (by omega) (by omega)
  replace q0 : ∀ W : World, (Instr.slice 23 (.slice a n c) (some (.int .i64 0)) (some (.int .i64 4)) none).run Try.prog W = .ok (.slice s0 4 k0) W := fun W => q0 W
  replace q0' : ∀ W : World, (Instr.sliceAt 23 (.slice a n c) (some (.int .i64 0)) (some (.int .i64 4)) none).run Try.prog W = .ok (.slice s0 4 k0) W := fun W => q0' W
  have B4 : Bytes w (.slice s4 (E - 4) k4) ((b.drop 4).take (5 + m)) := by rw [show 5 + m = E - 4 by omega]; exact B4
  have B0 : Bytes w (.slice s0 4 k0) (b.take 4) := B0
  have H4 := hide B4
  have H0 := hide B0
  have HL4 : Hid (((b.drop 4).take (5 + m)).length ≤ 1048576) := by show _ ≤ _; rw [List.length_take]; omega
  have hsl := sum_lt ((b.drop 4).take (5 + m))
  have hnl := le_take4_lt b
  have g7 : IntKind.i64.wrap ((sumB ((b.drop 4).take (5 + m)) : Nat) : Int) = ((sumB ((b.drop 4).take (5 + m)) : Nat) : Int) := by rw [IntKind.wrap_i64]; omega
  have HH := hide h
  have HEE := hide hE
  have he : takeErr b = 33 := by unfold takeErr; rw [if_neg (by omega), if_neg hm1, if_neg (by omega), if_pos hs]
  have HE := hide he
  rw [← hm] at hs
  have hs1 : ¬ ((sumB ((b.drop 4).take (5 + m)) : Nat) : Int) = ((le (b.take 4) : Nat) : Int) := by omega
  have hs2 : (((sumB ((b.drop 4).take (5 + m)) : Nat) : Int) == ((le (b.take 4) : Nat) : Int)) = false := beq_eq_false_iff_ne.2 hs1
  have hs3 : (((sumB ((b.drop 4).take (5 + m)) : Nat) : Int) != ((le (b.take 4) : Nat) : Int)) = true := bne_iff_ne.2 hs1
  clear he h B5 hm B4 B0 hm1 hm2 hE
  go_enter Try.func45, Try.ntmps45
  go_wp2_with fail
  refine (refNumber_any s5 k5 _ _ (unhide H5)).mono ?_
  rintro e w2 ⟨rfl, hb2⟩
  rw [← unhide HM]
  have HX2 : Hid (w2.heap[w.heap.size]? = some (.cells #[.int .u8 0, .slice none 0 0] 49 (0, 0))) := (hb2.block w.heap.size (by simp)).trans (heap_alloc_new w _)
  have HB2 : Hid (Below w.heap.size w w2) := ((Below.refl _ w).alloc (Nat.le_refl _) _).trans (hb2.mono (by simp))
  have c0 : w2.cell? ⟨w.heap.size, 0, none⟩ = some (.int .u8 0) := cell_of_row _ _ 0 _ _ _ (unhide HX2)
  have c1 : w2.cell? ⟨w.heap.size, 1, none⟩ = some (.slice none 0 0) := cell_of_row _ _ 1 _ _ _ (unhide HX2)
  have f0 : w2.frozen? ⟨w.heap.size, 0, none⟩ = false := frozen_of_row _ _ _ _ _ (unhide HX2)
  have f1 : w2.frozen? ⟨w.heap.size, 1, none⟩ = false := frozen_of_row _ _ _ _ _ (unhide HX2)
  clear hb2 H5 q5 q5'
  go_upto_region 8 with fail
  go_region_with (first
    | (go_at_call 41; refine (refSum_any (.slice s4 (E - 4) k4) ((b.drop 4).take (5 + m)) _ (by exact (unhide H4).kept fun k _ hk => (unhide HB2).block k hk) (unhide HL4)).mono ?_; rintro e w' ⟨rfl, rfl⟩)
    | (go_at_call 50; refine (refNumber_any s0 k0 (b.take 4) _ (by exact (unhide H0).kept fun k _ hk => (unhide HB2).block k hk)).mono ?_; rintro e w3 ⟨rfl, hb3⟩; have HX3 : Hid (w3.heap[w.heap.size]? = some (.cells #[.int .u8 0, .slice none 0 0] 49 (0, 0))) := (hb3.block w.heap.size (Array.getElem?_eq_some_iff.1 (unhide HX2)).1).trans (unhide HX2); have HB3 : Hid (Below w.heap.size w w3) := (unhide HB2).drew.trans (hb3.mono (unhide HB2).size); clear hb3))
  all_goals (
    have c0 : w3.cell? ⟨w.heap.size, 0, none⟩ = some (.int .u8 0) := cell_of_row _ _ 0 _ _ _ (unhide HX3)
    have c1 : w3.cell? ⟨w.heap.size, 1, none⟩ = some (.slice none 0 0) := cell_of_row _ _ 1 _ _ _ (unhide HX3)
    have f0 : w3.frozen? ⟨w.heap.size, 0, none⟩ = false := frozen_of_row _ _ _ _ _ (unhide HX3)
    have f1 : w3.frozen? ⟨w.heap.size, 1, none⟩ = false := frozen_of_row _ _ _ _ _ (unhide HX3)
    go_wp2_with fail
    refine bodyPost_ret (results_ctt rfl _ _ _ _ _ _ _ rfl (set2_heap (unhide HX3) _ _) Try.underlying49 rfl (by kernel_rfl)) rfl ?_
    exact took_none (unhide HE) (by decide) (set2_below (unhide HB3) (Nat.le_refl _) _ _))
end
end Go.Proofs.Ytbbglgfgelnncaa
