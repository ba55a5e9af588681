/- The document's records (foremanref03): Take, behind the checksum. No statement of the seat is proved here. -/
import Derived.Test.YtbbglgfgelnncaaRecRef3
namespace Go.Proofs.Ytbbglgfgelnncaa
open Go.RowKit

theorem byte_spot {w : World} {a : Option Addr} {n c : Nat} {bs : List UInt8} (h : Bytes w (.slice a n c) bs) (hi : 0 < n) : ∃ b o, a = some ⟨b, o, none⟩ := by
  obtain ⟨hl, _⟩ := bytes_len h
  obtain ⟨ad, rfl, h0⟩ := h.at (i := 0) hi hl
  obtain ⟨b, o, spot⟩ := ad
  have hspot : spot = none := by simpa [Addr.add] using World.cell?_spot h0
  subst hspot
  exact ⟨b, o, rfl⟩
theorem byte_at {w : World} {b o n c i : Nat} {bs : List UInt8} (h : Bytes w (.slice (some ⟨b, o, none⟩) n c) bs) (hi : i < n) : w.cell? ⟨b, o + i, none⟩ = some (.int .u8 ((bs.getD i 0).toNat : Nat)) := by
  obtain ⟨ad, e, h0⟩ := h.at hi (bytes_len h).1
  cases e
  rw [Addr.add_mid] at h0
  exact h0
/-- A row under way stays while another block's cells are set. -/
theorem Own.set2 {w W : World} {v : Value} {bs : List UInt8} (h : Own w v bs W) {g : Nat} (hg : w.heap.size ≤ g) (hv : ∀ k, v.ownBlock = some k → g < k) (x y : Value) : Own w v bs ((W.setCell ⟨g, 0, none⟩ x).setCell ⟨g, 1, none⟩ y) :=
  ⟨own_keeps h.own fun k hk => by have := hv k hk; rw [Below.heap_setCell _ _ _ _ (by show k ≠ g; omega), Below.heap_setCell _ _ _ _ (by show k ≠ g; omega)], h.new, set2_below h.bb hg x y⟩

section
variable (bb o n c : Nat) (b : List UInt8) (w : World)

set_option maxRecDepth 100000 in
set_option maxHeartbeats 8000000 in
theorem refTake_kind0 (h : Bytes w (.slice (some ⟨bb, o, none⟩) n c) b) (hn : 9 ≤ n) (hm1 : ¬ 4096 < le ((b.drop 5).take 4)) (hm2 : ¬ n < 9 + le ((b.drop 5).take 4)) (hs : sumB ((b.drop 4).take (5 + le ((b.drop 5).take 4))) = le (b.take 4)) (hk : (b.getD 4 0).toNat < 1) : Calls Try.prog 45 #[.slice (some ⟨bb, o, none⟩) n c] w fun e w' => TookAt w b e w' := by
  obtain ⟨hl, hnc⟩ := bytes_len h
  obtain ⟨m, hm⟩ : ∃ m, m = le ((b.drop 5).take 4) := ⟨_, rfl⟩
  obtain ⟨s5, k5, B5, q5, q5', _⟩ := slice_mid (l := 5) (h := 9) h (by omega) (by omega)
  replace q5 : ∀ W : World, (Instr.slice 23 (.slice (some ⟨bb, o, none⟩) n c) (some (.int .i64 5)) (some (.int .i64 9)) none).run Try.prog W = .ok (.slice s5 4 k5) W := fun W => q5 W
  replace q5' : ∀ W : World, (Instr.sliceAt 23 (.slice (some ⟨bb, o, none⟩) n c) (some (.int .i64 5)) (some (.int .i64 9)) none).run Try.prog W = .ok (.slice s5 4 k5) W := fun W => q5' W
  have H5 : Hid (Bytes (w.alloc (.cells #[.int .u8 0, .slice none 0 0] 49)) (.slice s5 4 k5) ((b.drop 5).take 4)) := B5.alloc _
  have HM := hide hm
  have g1 : ¬ (n : Int) < 9 := by omega
  have g2 : ¬ (m : Int) > 4096 := by omega
  obtain ⟨E, hE⟩ : ∃ E : Nat, E = 9 + m := ⟨_, rfl⟩
  have g3 : ¬ (n : Int) < (E : Int) := by omega
  have g4 : IntKind.i64.wrap (9 + (m : Int)) = (E : Int) := by rw [IntKind.wrap_i64]; omega
  have g5 : 9 + (m : Int) = (E : Int) := by omega
  have g6 : IntKind.i64.wrap (E : Int) = (E : Int) := by rw [IntKind.wrap_i64]; omega
  obtain ⟨s4, k4, B4, q4, q4', _⟩ := slice_mid (l := 4) (h := E) h (by omega) (by omega)
  replace q4 : ∀ W : World, (Instr.slice 23 (.slice (some ⟨bb, o, none⟩) n c) (some (.int .i64 4)) (some (.int .i64 (E : Int))) none).run Try.prog W = .ok (.slice s4 (E - 4) k4) W := fun W => q4 W
  replace q4' : ∀ W : World, (Instr.sliceAt 23 (.slice (some ⟨bb, o, none⟩) n c) (some (.int .i64 4)) (some (.int .i64 (E : Int))) none).run Try.prog W = .ok (.slice s4 (E - 4) k4) W := fun W => q4' W
  obtain ⟨s0, k0, B0, q0, q0', _⟩ := slice_mid (l := 0) (h := 4) h (by omega) (by omega)
  replace q0 : ∀ W : World, (Instr.slice 23 (.slice (some ⟨bb, o, none⟩) n c) (some (.int .i64 0)) (some (.int .i64 4)) none).run Try.prog W = .ok (.slice s0 4 k0) W := fun W => q0 W
  replace q0' : ∀ W : World, (Instr.sliceAt 23 (.slice (some ⟨bb, o, none⟩) n c) (some (.int .i64 0)) (some (.int .i64 4)) none).run Try.prog W = .ok (.slice s0 4 k0) W := fun W => q0' W
  have B4 : Bytes w (.slice s4 (E - 4) k4) ((b.drop 4).take (5 + m)) := by rw [show 5 + m = E - 4 by omega]; exact B4
  have B0 : Bytes w (.slice s0 4 k0) (b.take 4) := B0
  have H4 := hide B4
  have H0 := hide B0
  have HL4 : Hid (((b.drop 4).take (5 + m)).length ≤ 1048576) := by show _ ≤ _; rw [List.length_take]; omega
  have hsl := sum_lt ((b.drop 4).take (5 + m))
  have hnl := le_take4_lt b
  have g7 : IntKind.i64.wrap ((sumB ((b.drop 4).take (5 + m)) : Nat) : Int) = ((sumB ((b.drop 4).take (5 + m)) : Nat) : Int) := by rw [IntKind.wrap_i64]; omega
  have HH := hide h
  have HEE := hide hE
  have HS := hide hs
  rw [← hm] at hs
  have hs1 : ((sumB ((b.drop 4).take (5 + m)) : Nat) : Int) = ((le (b.take 4) : Nat) : Int) := by omega
  have hs2 : (((sumB ((b.drop 4).take (5 + m)) : Nat) : Int) == ((le (b.take 4) : Nat) : Int)) = true := beq_iff_eq.2 hs1
  have hs3 : (((sumB ((b.drop 4).take (5 + m)) : Nat) : Int) != ((le (b.take 4) : Nat) : Int)) = false := by rw [bne, hs2]; rfl
  obtain ⟨K, hK⟩ : ∃ K, K = (b.getD 4 0).toNat := ⟨_, rfl⟩
  have HK := hide hK
  have he : takeErr b = 30 := by unfold takeErr; rw [if_neg (by omega), if_neg hm1, if_neg (by omega), if_neg (by rw [unhide HS]; simp), if_pos (.inl hk)]
  have HE := hide he
  rw [← hK] at hk
  have gk1 : (K : Int) < 1 := by omega
  clear he h B5 hm B4 B0 hm1 hm2 hE hs1 hs hK hk
  go_enter Try.func45, Try.ntmps45
  go_wp2_with fail
  refine (refNumber_any s5 k5 _ _ (unhide H5)).mono ?_
  rintro e w2 ⟨rfl, hb2⟩
  rw [← unhide HM]
  have HX2 : Hid (w2.heap[w.heap.size]? = some (.cells #[.int .u8 0, .slice none 0 0] 49 (0, 0))) := (hb2.block w.heap.size (by simp)).trans (heap_alloc_new w _)
  have HB2 : Hid (Below w.heap.size w w2) := ((Below.refl _ w).alloc (Nat.le_refl _) _).trans (hb2.mono (by simp))
  have c0 : w2.cell? ⟨w.heap.size, 0, none⟩ = some (.int .u8 0) := cell_of_row _ _ 0 _ _ _ (unhide HX2)
  have c1 : w2.cell? ⟨w.heap.size, 1, none⟩ = some (.slice none 0 0) := cell_of_row _ _ 1 _ _ _ (unhide HX2)
  have f0 : w2.frozen? ⟨w.heap.size, 0, none⟩ = false := frozen_of_row _ _ _ _ _ (unhide HX2)
  have f1 : w2.frozen? ⟨w.heap.size, 1, none⟩ = false := frozen_of_row _ _ _ _ _ (unhide HX2)
  clear hb2 H5 q5 q5'
  go_upto_region 8 with fail
  go_region_with (first
    | (go_at_call 41; refine (refSum_any (.slice s4 (E - 4) k4) ((b.drop 4).take (5 + m)) _ (by exact (unhide H4).kept fun k _ hk => (unhide HB2).block k hk) (unhide HL4)).mono ?_; rintro e w' ⟨rfl, rfl⟩)
    | (go_at_call 50; refine (refNumber_any s0 k0 (b.take 4) _ (by exact (unhide H0).kept fun k _ hk => (unhide HB2).block k hk)).mono ?_; rintro e w3 ⟨rfl, hb3⟩; have HX3 : Hid (w3.heap[w.heap.size]? = some (.cells #[.int .u8 0, .slice none 0 0] 49 (0, 0))) := (hb3.block w.heap.size (Array.getElem?_eq_some_iff.1 (unhide HX2)).1).trans (unhide HX2); have HB3 : Hid (Below w.heap.size w w3) := (unhide HB2).drew.trans (hb3.mono (unhide HB2).size); clear hb3))
  all_goals (
    have c0 : w3.cell? ⟨w.heap.size, 0, none⟩ = some (.int .u8 0) := cell_of_row _ _ 0 _ _ _ (unhide HX3)
    have c1 : w3.cell? ⟨w.heap.size, 1, none⟩ = some (.slice none 0 0) := cell_of_row _ _ 1 _ _ _ (unhide HX3)
    have f0 : w3.frozen? ⟨w.heap.size, 0, none⟩ = false := frozen_of_row _ _ _ _ _ (unhide HX3)
    have f1 : w3.frozen? ⟨w.heap.size, 1, none⟩ = false := frozen_of_row _ _ _ _ _ (unhide HX3)
    have c4 : w3.cell? ⟨bb, o + 4, none⟩ = some (.int .u8 (K : Nat)) := by rw [unhide HK]; exact byte_at ((unhide HH).kept fun k _ hk => (unhide HB3).block k hk) (by omega)
    go_wp2_with fail
    refine bodyPost_ret (results_ctt rfl _ _ _ _ _ _ _ rfl (set2_heap (unhide HX3) _ _) Try.underlying49 rfl (by kernel_rfl)) rfl ?_
    exact took_none (unhide HE) (by decide) (set2_below (unhide HB3) (Nat.le_refl _) _ _))

set_option maxRecDepth 100000 in
set_option maxHeartbeats 8000000 in
theorem refTake_kind2 (h : Bytes w (.slice (some ⟨bb, o, none⟩) n c) b) (hn : 9 ≤ n) (hm1 : ¬ 4096 < le ((b.drop 5).take 4)) (hm2 : ¬ n < 9 + le ((b.drop 5).take 4)) (hs : sumB ((b.drop 4).take (5 + le ((b.drop 5).take 4))) = le (b.take 4)) (hk : 2 < (b.getD 4 0).toNat) : Calls Try.prog 45 #[.slice (some ⟨bb, o, none⟩) n c] w fun e w' => TookAt w b e w' := by
  obtain ⟨hl, hnc⟩ := bytes_len h
  obtain ⟨m, hm⟩ : ∃ m, m = le ((b.drop 5).take 4) := ⟨_, rfl⟩
  obtain ⟨s5, k5, B5, q5, q5', _⟩ := slice_mid (l := 5) (h := 9) h (by omega) (by omega)
  replace q5 : ∀ W : World, (Instr.slice 23 (.slice (some ⟨bb, o, none⟩) n c) (some (.int .i64 5)) (some (.int .i64 9)) none).run Try.prog W = .ok (.slice s5 4 k5) W := fun W => q5 W
  replace q5' : ∀ W : World, (Instr.sliceAt 23 (.slice (some ⟨bb, o, none⟩) n c) (some (.int .i64 5)) (some (.int .i64 9)) none).run Try.prog W = .ok (.slice s5 4 k5) W := fun W => q5' W
  have H5 : Hid (Bytes (w.alloc (.cells #[.int .u8 0, .slice none 0 0] 49)) (.slice s5 4 k5) ((b.drop 5).take 4)) := B5.alloc _
  have HM := hide hm
  have g1 : ¬ (n : Int) < 9 := by omega
  have g2 : ¬ (m : Int) > 4096 := by omega
  obtain ⟨E, hE⟩ : ∃ E : Nat, E = 9 + m := ⟨_, rfl⟩
  have g3 : ¬ (n : Int) < (E : Int) := by omega
  have g4 : IntKind.i64.wrap (9 + (m : Int)) = (E : Int) := by rw [IntKind.wrap_i64]; omega
  have g5 : 9 + (m : Int) = (E : Int) := by omega
  have g6 : IntKind.i64.wrap (E : Int) = (E : Int) := by rw [IntKind.wrap_i64]; omega
  obtain ⟨s4, k4, B4, q4, q4', _⟩ := slice_mid (l := 4) (h := E) h (by omega) (by omega)
  replace q4 : ∀ W : World, (Instr.slice 23 (.slice (some ⟨bb, o, none⟩) n c) (some (.int .i64 4)) (some (.int .i64 (E : Int))) none).run Try.prog W = .ok (.slice s4 (E - 4) k4) W := fun W => q4 W
  replace q4' : ∀ W : World, (Instr.sliceAt 23 (.slice (some ⟨bb, o, none⟩) n c) (some (.int .i64 4)) (some (.int .i64 (E : Int))) none).run Try.prog W = .ok (.slice s4 (E - 4) k4) W := fun W => q4' W
  obtain ⟨s0, k0, B0, q0, q0', _⟩ := slice_mid (l := 0) (h := 4) h (by omega) (by omega)
  replace q0 : ∀ W : World, (Instr.slice 23 (.slice (some ⟨bb, o, none⟩) n c) (some (.int .i64 0)) (some (.int .i64 4)) none).run Try.prog W = .ok (.slice s0 4 k0) W := fun W => q0 W
  replace q0' : ∀ W : World, (Instr.sliceAt 23 (.slice (some ⟨bb, o, none⟩) n c) (some (.int .i64 0)) (some (.int .i64 4)) none).run Try.prog W = .ok (.slice s0 4 k0) W := fun W => q0' W
  have B4 : Bytes w (.slice s4 (E - 4) k4) ((b.drop 4).take (5 + m)) := by rw [show 5 + m = E - 4 by omega]; exact B4
  have B0 : Bytes w (.slice s0 4 k0) (b.take 4) := B0
  have H4 := hide B4
  have H0 := hide B0
  have HL4 : Hid (((b.drop 4).take (5 + m)).length ≤ 1048576) := by show _ ≤ _; rw [List.length_take]; omega
  have hsl := sum_lt ((b.drop 4).take (5 + m))
  have hnl := le_take4_lt b
  have g7 : IntKind.i64.wrap ((sumB ((b.drop 4).take (5 + m)) : Nat) : Int) = ((sumB ((b.drop 4).take (5 + m)) : Nat) : Int) := by rw [IntKind.wrap_i64]; omega
  have HH := hide h
  have HEE := hide hE
  have HS := hide hs
  rw [← hm] at hs
  have hs1 : ((sumB ((b.drop 4).take (5 + m)) : Nat) : Int) = ((le (b.take 4) : Nat) : Int) := by omega
  have hs2 : (((sumB ((b.drop 4).take (5 + m)) : Nat) : Int) == ((le (b.take 4) : Nat) : Int)) = true := beq_iff_eq.2 hs1
  have hs3 : (((sumB ((b.drop 4).take (5 + m)) : Nat) : Int) != ((le (b.take 4) : Nat) : Int)) = false := by rw [bne, hs2]; rfl
  obtain ⟨K, hK⟩ : ∃ K, K = (b.getD 4 0).toNat := ⟨_, rfl⟩
  have HK := hide hK
  have he : takeErr b = 30 := by unfold takeErr; rw [if_neg (by omega), if_neg hm1, if_neg (by omega), if_neg (by rw [unhide HS]; simp), if_pos (.inr hk)]
  have HE := hide he
  rw [← hK] at hk
  have gk1 : ¬ (K : Int) < 1 := by omega
  have gk2 : (K : Int) > 2 := by omega
  clear he h B5 hm B4 B0 hm1 hm2 hE hs1 hs hK hk
  go_enter Try.func45, Try.ntmps45
  go_wp2_with fail
  refine (refNumber_any s5 k5 _ _ (unhide H5)).mono ?_
  rintro e w2 ⟨rfl, hb2⟩
  rw [← unhide HM]
  have HX2 : Hid (w2.heap[w.heap.size]? = some (.cells #[.int .u8 0, .slice none 0 0] 49 (0, 0))) := (hb2.block w.heap.size (by simp)).trans (heap_alloc_new w _)
  have HB2 : Hid (Below w.heap.size w w2) := ((Below.refl _ w).alloc (Nat.le_refl _) _).trans (hb2.mono (by simp))
  have c0 : w2.cell? ⟨w.heap.size, 0, none⟩ = some (.int .u8 0) := cell_of_row _ _ 0 _ _ _ (unhide HX2)
  have c1 : w2.cell? ⟨w.heap.size, 1, none⟩ = some (.slice none 0 0) := cell_of_row _ _ 1 _ _ _ (unhide HX2)
  have f0 : w2.frozen? ⟨w.heap.size, 0, none⟩ = false := frozen_of_row _ _ _ _ _ (unhide HX2)
  have f1 : w2.frozen? ⟨w.heap.size, 1, none⟩ = false := frozen_of_row _ _ _ _ _ (unhide HX2)
  clear hb2 H5 q5 q5'
  go_upto_region 8 with fail
  go_region_with (first
    | (go_at_call 41; refine (refSum_any (.slice s4 (E - 4) k4) ((b.drop 4).take (5 + m)) _ (by exact (unhide H4).kept fun k _ hk => (unhide HB2).block k hk) (unhide HL4)).mono ?_; rintro e w' ⟨rfl, rfl⟩)
    | (go_at_call 50; refine (refNumber_any s0 k0 (b.take 4) _ (by exact (unhide H0).kept fun k _ hk => (unhide HB2).block k hk)).mono ?_; rintro e w3 ⟨rfl, hb3⟩; have HX3 : Hid (w3.heap[w.heap.size]? = some (.cells #[.int .u8 0, .slice none 0 0] 49 (0, 0))) := (hb3.block w.heap.size (Array.getElem?_eq_some_iff.1 (unhide HX2)).1).trans (unhide HX2); have HB3 : Hid (Below w.heap.size w w3) := (unhide HB2).drew.trans (hb3.mono (unhide HB2).size); clear hb3))
  all_goals (
    have c0 : w3.cell? ⟨w.heap.size, 0, none⟩ = some (.int .u8 0) := cell_of_row _ _ 0 _ _ _ (unhide HX3)
    have c1 : w3.cell? ⟨w.heap.size, 1, none⟩ = some (.slice none 0 0) := cell_of_row _ _ 1 _ _ _ (unhide HX3)
    have f0 : w3.frozen? ⟨w.heap.size, 0, none⟩ = false := frozen_of_row _ _ _ _ _ (unhide HX3)
    have f1 : w3.frozen? ⟨w.heap.size, 1, none⟩ = false := frozen_of_row _ _ _ _ _ (unhide HX3)
    have c4 : w3.cell? ⟨bb, o + 4, none⟩ = some (.int .u8 (K : Nat)) := by rw [unhide HK]; exact byte_at ((unhide HH).kept fun k _ hk => (unhide HB3).block k hk) (by omega)
    go_wp2_with fail
    refine bodyPost_ret (results_ctt rfl _ _ _ _ _ _ _ rfl (set2_heap (unhide HX3) _ _) Try.underlying49 rfl (by kernel_rfl)) rfl ?_
    exact took_none (unhide HE) (by decide) (set2_below (unhide HB3) (Nat.le_refl _) _ _))

set_option maxRecDepth 100000 in
set_option maxHeartbeats 8000000 in
theorem refTake_ok (h : Bytes w (.slice (some ⟨bb, o, none⟩) n c) b) (hn : 9 ≤ n) (hm1 : ¬ 4096 < le ((b.drop 5).take 4)) (hm2 : ¬ n < 9 + le ((b.drop 5).take 4)) (hs : sumB ((b.drop 4).take (5 + le ((b.drop 5).take 4))) = le (b.take 4)) (hk1 : ¬ (b.getD 4 0).toNat < 1) (hk2 : ¬ 2 < (b.getD 4 0).toNat) : Calls Try.prog 45 #[.slice (some ⟨bb, o, none⟩) n c] w fun e w' => TookAt w b e w' := by
  obtain ⟨hl, hnc⟩ := bytes_len h
  obtain ⟨m, hm⟩ : ∃ m, m = le ((b.drop 5).take 4) := ⟨_, rfl⟩
  obtain ⟨s5, k5, B5, q5, q5', _⟩ := slice_mid (l := 5) (h := 9) h (by omega) (by omega)
  replace q5 : ∀ W : World, (Instr.slice 23 (.slice (some ⟨bb, o, none⟩) n c) (some (.int .i64 5)) (some (.int .i64 9)) none).run Try.prog W = .ok (.slice s5 4 k5) W := fun W => q5 W
  replace q5' : ∀ W : World, (Instr.sliceAt 23 (.slice (some ⟨bb, o, none⟩) n c) (some (.int .i64 5)) (some (.int .i64 9)) none).run Try.prog W = .ok (.slice s5 4 k5) W := fun W => q5' W
  have H5 : Hid (Bytes (w.alloc (.cells #[.int .u8 0, .slice none 0 0] 49)) (.slice s5 4 k5) ((b.drop 5).take 4)) := B5.alloc _
  have HM := hide hm
  have g1 : ¬ (n : Int) < 9 := by omega
  have g2 : ¬ (m : Int) > 4096 := by omega
  obtain ⟨E, hE⟩ : ∃ E : Nat, E = 9 + m := ⟨_, rfl⟩
  have g3 : ¬ (n : Int) < (E : Int) := by omega
  have g4 : IntKind.i64.wrap (9 + (m : Int)) = (E : Int) := by rw [IntKind.wrap_i64]; omega
  have g5 : 9 + (m : Int) = (E : Int) := by omega
  have g6 : IntKind.i64.wrap (E : Int) = (E : Int) := by rw [IntKind.wrap_i64]; omega
  obtain ⟨s4, k4, B4, q4, q4', _⟩ := slice_mid (l := 4) (h := E) h (by omega) (by omega)
  replace q4 : ∀ W : World, (Instr.slice 23 (.slice (some ⟨bb, o, none⟩) n c) (some (.int .i64 4)) (some (.int .i64 (E : Int))) none).run Try.prog W = .ok (.slice s4 (E - 4) k4) W := fun W => q4 W
  replace q4' : ∀ W : World, (Instr.sliceAt 23 (.slice (some ⟨bb, o, none⟩) n c) (some (.int .i64 4)) (some (.int .i64 (E : Int))) none).run Try.prog W = .ok (.slice s4 (E - 4) k4) W := fun W => q4' W
  obtain ⟨s0, k0, B0, q0, q0', _⟩ := slice_mid (l := 0) (h := 4) h (by omega) (by omega)
  replace q0 : ∀ W : World, (Instr.slice 23 (.slice (some ⟨bb, o, none⟩) n c) (some (.int .i64 0)) (some (.int .i64 4)) none).run Try.prog W = .ok (.slice s0 4 k0) W := fun W => q0 W
  replace q0' : ∀ W : World, (Instr.sliceAt 23 (.slice (some ⟨bb, o, none⟩) n c) (some (.int .i64 0)) (some (.int .i64 4)) none).run Try.prog W = .ok (.slice s0 4 k0) W := fun W => q0' W
  have B4 : Bytes w (.slice s4 (E - 4) k4) ((b.drop 4).take (5 + m)) := by rw [show 5 + m = E - 4 by omega]; exact B4
  have B0 : Bytes w (.slice s0 4 k0) (b.take 4) := B0
  have H4 := hide B4
  have H0 := hide B0
  have HL4 : Hid (((b.drop 4).take (5 + m)).length ≤ 1048576) := by show _ ≤ _; rw [List.length_take]; omega
  have hsl := sum_lt ((b.drop 4).take (5 + m))
  have hnl := le_take4_lt b
  have g7 : IntKind.i64.wrap ((sumB ((b.drop 4).take (5 + m)) : Nat) : Int) = ((sumB ((b.drop 4).take (5 + m)) : Nat) : Int) := by rw [IntKind.wrap_i64]; omega
  have HH := hide h
  have HEE := hide hE
  have HS := hide hs
  rw [← hm] at hs
  have hs1 : ((sumB ((b.drop 4).take (5 + m)) : Nat) : Int) = ((le (b.take 4) : Nat) : Int) := by omega
  have hs2 : (((sumB ((b.drop 4).take (5 + m)) : Nat) : Int) == ((le (b.take 4) : Nat) : Int)) = true := beq_iff_eq.2 hs1
  have hs3 : (((sumB ((b.drop 4).take (5 + m)) : Nat) : Int) != ((le (b.take 4) : Nat) : Int)) = false := by rw [bne, hs2]; rfl
  obtain ⟨K, hK⟩ : ∃ K, K = (b.getD 4 0).toNat := ⟨_, rfl⟩
  have HK := hide hK
  have he : takeErr b = 0 := by unfold takeErr; rw [if_neg (by omega), if_neg hm1, if_neg (by omega), if_neg (by rw [unhide HS]; simp), if_neg (by omega)]
  have HE := hide he
  have HLn : Hid (takeLen b = E) := by show _ = _; unfold takeLen; rw [if_pos he, ← hm]; omega
  have HRc : Hid (takeRec b = ⟨b.getD 4 0, (b.drop 9).take m⟩) := by show _ = _; unfold takeRec; rw [if_pos he, ← hm]
  rw [← hK] at hk1 hk2
  have gk1 : ¬ (K : Int) < 1 := by omega
  have gk2 : ¬ (K : Int) > 2 := by omega
  obtain ⟨s9, k9, B9, q9, q9', _⟩ := slice_mid (l := 9) (h := E) h (by omega) (by omega)
  replace q9 : ∀ W : World, (Instr.slice 23 (.slice (some ⟨bb, o, none⟩) n c) (some (.int .i64 9)) (some (.int .i64 (E : Int))) none).run Try.prog W = .ok (.slice s9 (E - 9) k9) W := fun W => q9 W
  replace q9' : ∀ W : World, (Instr.sliceAt 23 (.slice (some ⟨bb, o, none⟩) n c) (some (.int .i64 9)) (some (.int .i64 (E : Int))) none).run Try.prog W = .ok (.slice s9 (E - 9) k9) W := fun W => q9' W
  have B9 : Bytes w (.slice s9 (E - 9) k9) ((b.drop 9).take m) := by rw [show m = E - 9 by omega]; exact B9
  have H9 := hide B9
  have HL9 : Hid (((b.drop 9).take m).length ≤ 4096) := by show _ ≤ _; rw [List.length_take]; omega
  obtain ⟨ti, hti, hz0, hz1, hz2⟩ := infoByte
  clear he h B5 hm B4 B0 B9 hm1 hm2 hE hs1 hs hK hk1 hk2
  go_enter Try.func45, Try.ntmps45
  go_wp2_with fail
  refine (refNumber_any s5 k5 _ _ (unhide H5)).mono ?_
  rintro e w2 ⟨rfl, hb2⟩
  rw [← unhide HM]
  have HX2 : Hid (w2.heap[w.heap.size]? = some (.cells #[.int .u8 0, .slice none 0 0] 49 (0, 0))) := (hb2.block w.heap.size (by simp)).trans (heap_alloc_new w _)
  have HB2 : Hid (Below w.heap.size w w2) := ((Below.refl _ w).alloc (Nat.le_refl _) _).trans (hb2.mono (by simp))
  have c0 : w2.cell? ⟨w.heap.size, 0, none⟩ = some (.int .u8 0) := cell_of_row _ _ 0 _ _ _ (unhide HX2)
  have c1 : w2.cell? ⟨w.heap.size, 1, none⟩ = some (.slice none 0 0) := cell_of_row _ _ 1 _ _ _ (unhide HX2)
  have f0 : w2.frozen? ⟨w.heap.size, 0, none⟩ = false := frozen_of_row _ _ _ _ _ (unhide HX2)
  have f1 : w2.frozen? ⟨w.heap.size, 1, none⟩ = false := frozen_of_row _ _ _ _ _ (unhide HX2)
  clear hb2 H5 q5 q5'
  go_upto_region 8 with fail
  go_region_with (first
    | (go_at_call 41; refine (refSum_any (.slice s4 (E - 4) k4) ((b.drop 4).take (5 + m)) _ (by exact (unhide H4).kept fun k _ hk => (unhide HB2).block k hk) (unhide HL4)).mono ?_; rintro e w' ⟨rfl, rfl⟩)
    | (go_at_call 50; refine (refNumber_any s0 k0 (b.take 4) _ (by exact (unhide H0).kept fun k _ hk => (unhide HB2).block k hk)).mono ?_; rintro e w3 ⟨rfl, hb3⟩; have HX3 : Hid (w3.heap[w.heap.size]? = some (.cells #[.int .u8 0, .slice none 0 0] 49 (0, 0))) := (hb3.block w.heap.size (Array.getElem?_eq_some_iff.1 (unhide HX2)).1).trans (unhide HX2); have HB3 : Hid (Below w.heap.size w w3) := (unhide HB2).drew.trans (hb3.mono (unhide HB2).size); clear hb3))
  all_goals (
    have c4 : w3.cell? ⟨bb, o + 4, none⟩ = some (.int .u8 (K : Nat)) := by rw [unhide HK]; exact byte_at ((unhide HH).kept fun k _ hk => (unhide HB3).block k hk) (by omega)
    have HO3 := hide (Own.start w3)
    have HU3 : Hid (Bytes w3 (.slice s9 (E - 9) k9) ((b.drop 9).take m)) := (unhide H9).kept fun k _ hk => (unhide HB3).block k hk
    go_upto_region 13 with fail
    go_wp2_with (at_builtin; refine wpList_append_bytes _ rfl _ _ 23 rfl 5 ti (.int .u8 0) Try.underlying23 hti hz0 hz1 hz2 rfl _ [] rfl (unhide HO3).own _ ((b.drop 9).take m) rfl (unhide HU3) (by have := unhide HL9; simp only [List.length_nil]; omega) ?_)
    rintro v6 w4 r1 r2 r3
    have HO4 : Hid (Own w3 v6 ((b.drop 9).take m) w4) := (unhide HO3).grown (by simpa [hl] using r1) r2 (by simpa using r3)
    clear r1 r2 r3 HO3 HU3 c4
    have HX4 : Hid (w4.heap[w.heap.size]? = some (.cells #[.int .u8 0, .slice none 0 0] 49 (0, 0))) := ((unhide HO4).bb.block _ (Array.getElem?_eq_some_iff.1 (unhide HX3)).1).trans (unhide HX3)
    have HV4 : Hid (∀ k, v6.ownBlock = some k → w.heap.size < k) := fun k hk => by have := (unhide HO4).new k hk; have := (Array.getElem?_eq_some_iff.1 (unhide HX3)).1; omega
    have HO5 : Hid (Own w v6 ((b.drop 9).take m) w4) := (unhide HO4).lift (unhide HB3)
    obtain ⟨a6, c6, e6, _⟩ := (bytes_of_owns (unhide HO5).own).form
    generalize ((b.drop 9).take m).length = n6 at e6
    subst e6
    have c4 : w4.cell? ⟨bb, o + 4, none⟩ = some (.int .u8 (K : Nat)) := by rw [unhide HK]; exact byte_at ((unhide HH).kept fun k _ hk => (unhide HO5).bb.block k hk) (by omega)
    have c0 : w4.cell? ⟨w.heap.size, 0, none⟩ = some (.int .u8 0) := cell_of_row _ _ 0 _ _ _ (unhide HX4)
    have c1 : w4.cell? ⟨w.heap.size, 1, none⟩ = some (.slice none 0 0) := cell_of_row _ _ 1 _ _ _ (unhide HX4)
    have f0 : w4.frozen? ⟨w.heap.size, 0, none⟩ = false := frozen_of_row _ _ _ _ _ (unhide HX4)
    have f1 : w4.frozen? ⟨w.heap.size, 1, none⟩ = false := frozen_of_row _ _ _ _ _ (unhide HX4)
    go_wp2_with fail
    refine bodyPost_ret (results_ctt rfl _ _ _ _ _ _ _ rfl (set2_heap (unhide HX4) _ _) Try.underlying49 rfl (by kernel_rfl)) rfl ?_
    refine ⟨a6, n6, c6, ?_, ?_⟩
    · rw [unhide HLn, unhide HRc, unhide HE, unhide HK]; rfl
    · rw [unhide HRc]
      exact ((unhide HO5).set2 (Nat.le_refl _) (unhide HV4) _ _).fresh)
end
end Go.Proofs.Ytbbglgfgelnncaa
