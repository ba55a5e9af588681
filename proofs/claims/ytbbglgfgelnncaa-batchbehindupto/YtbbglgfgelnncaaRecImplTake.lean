/- What Take of package rec answers. No statement of the seat is proved here. -/
import Derived.Test.YtbbglgfgelnncaaRecImplA
import Derived.Test.YtbbglgfgelnncaaCrcSum
namespace Go.Proofs.Ytbbglgfgelnncaa
open Go.RowKit

theorem take_told {b : List UInt8} (h : toldErr b ≠ 0) : takeErr b = toldErr b := by
  unfold toldErr at h ⊢
  unfold takeErr
  split
  · rfl
  · split
    · rfl
    · split
      · rfl
      · rename_i h1 h2 h3
        rw [if_neg h1, if_neg h2, if_neg h3] at h
        exact absurd rfl h
theorem told_ok {b : List UInt8} (h : toldErr b = 0) : 9 ≤ b.length ∧ le ((b.drop 5).take 4) ≤ 4096 ∧ 9 + le ((b.drop 5).take 4) ≤ b.length ∧ toldLen b = 9 + le ((b.drop 5).take 4) := by
  have h0 := h
  unfold toldErr at h
  split at h
  · cases h
  · split at h
    · cases h
    · split at h
      · cases h
      · exact ⟨by omega, by omega, by omega, if_pos h0⟩
theorem take_rest {b : List UInt8} (h : toldErr b = 0) : takeErr b = if sumB ((b.drop 4).take (5 + le ((b.drop 5).take 4))) ≠ le (b.take 4) then 33 else if (b.getD 4 0).toNat < 1 ∨ 2 < (b.getD 4 0).toNat then 30 else 0 := by
  obtain ⟨h1, h2, h3, _⟩ := told_ok h
  unfold takeErr
  rw [if_neg (by omega), if_neg (by omega), if_neg (by omega)]

section
variable (a : Option Addr) (n c : Nat) (b : List UInt8) (w : World)

set_option maxRecDepth 100000 in
set_option maxHeartbeats 4000000 in
theorem recTake_told (h : Bytes w (.slice a n c) b) (he : toldErr b ≠ 0) : Calls Try.prog 32 #[.slice a n c] w fun e w' => TookAt w b e w' := by
  have HE := hide (take_told he)
  have HE0 := hide he
  have e2 : toldLen b = 0 := if_neg he
  have HE2 := hide e2
  have hx : (toldErr b != 0) = true := bne_iff_ne.2 he
  have hx2 : (toldErr b == 0) = false := beq_eq_false_iff_ne.2 he
  have HH := hide (h.alloc (.cells #[.int .u8 0, .slice none 0 0] 49))
  have hb0 : Below w.heap.size w (w.alloc (.cells #[.int .u8 0, .slice none 0 0] 49)) := (Below.refl _ w).alloc (Nat.le_refl _) _
  have HB0 := hide hb0
  have HX : Hid ((w.alloc (.cells #[.int .u8 0, .slice none 0 0] 49)).heap[w.heap.size]? = some (.cells #[.int .u8 0, .slice none 0 0] 49 (0, 0))) := heap_alloc_new w _
  clear h hb0 e2 he
  go_enter Try.func32, Try.ntmps32
  go_wp2_with fail
  refine (toldLong_any a n c b _ (unhide HH)).mono ?_
  rintro e w1 ⟨rfl, hw1⟩
  rw [← hw1] at HX HB0
  clear hw1
  rw [unhide HE2]
  have c0 : w1.cell? ⟨w.heap.size, 0, none⟩ = some (.int .u8 0) := cell_of_row _ _ 0 _ _ _ (unhide HX)
  have c1 : w1.cell? ⟨w.heap.size, 1, none⟩ = some (.slice none 0 0) := cell_of_row _ _ 1 _ _ _ (unhide HX)
  have f0 : w1.frozen? ⟨w.heap.size, 0, none⟩ = false := frozen_of_row _ _ _ _ _ (unhide HX)
  have f1 : w1.frozen? ⟨w.heap.size, 1, none⟩ = false := frozen_of_row _ _ _ _ _ (unhide HX)
  generalize toldErr b = x at *
  go_wp2_with fail
  refine bodyPost_ret (results_ctt rfl _ _ _ _ _ _ _ rfl (set2_heap (unhide HX) _ _) Try.underlying49 rfl (by kernel_rfl)) rfl ?_
  exact took_none (unhide HE) (unhide HE0) (set2_below (unhide HB0) (Nat.le_refl _) _ _)

set_option maxRecDepth 100000 in
set_option maxHeartbeats 8000000 in
theorem recTake_rest (bb o : Nat) (h : Bytes w (.slice (some ⟨bb, o, none⟩) n c) b) (ht : toldErr b = 0) : Calls Try.prog 32 #[.slice (some ⟨bb, o, none⟩) n c] w fun e w' => TookAt w b e w' := by
  obtain ⟨hl, hnc⟩ := bytes_len h
  obtain ⟨t1, t2, t3, t4⟩ := told_ok ht
  have hR := take_rest ht
  obtain ⟨m, hm⟩ : ∃ m, m = le ((b.drop 5).take 4) := ⟨_, rfl⟩
  obtain ⟨E, hE⟩ : ∃ E : Nat, E = 9 + m := ⟨_, rfl⟩
  rw [← hm] at t2 t3 t4 hR
  rw [← hE] at t3 t4
  have HT4 := hide t4
  have HT0 := hide ht
  have hEn : E ≤ n := by omega
  obtain ⟨s4, k4, B4, q4, q4', _⟩ := slice_mid (l := 4) (h := E) h (by omega) (by omega)
  replace q4 : ∀ W : World, (Instr.slice 23 (.slice (some ⟨bb, o, none⟩) n c) (some (.int .i64 4)) (some (.int .i64 (E : Int))) none).run Try.prog W = .ok (.slice s4 (E - 4) k4) W := fun W => q4 W
  replace q4' : ∀ W : World, (Instr.sliceAt 23 (.slice (some ⟨bb, o, none⟩) n c) (some (.int .i64 4)) (some (.int .i64 (E : Int))) none).run Try.prog W = .ok (.slice s4 (E - 4) k4) W := fun W => q4' W
  have B4 : Bytes w (.slice s4 (E - 4) k4) ((b.drop 4).take (5 + m)) := by rw [show 5 + m = E - 4 by omega]; exact B4
  have H4 := hide B4
  have HL4 : Hid (((b.drop 4).take (5 + m)).length ≤ 1048576) := by show _ ≤ _; rw [List.length_take]; omega
  have hsl := sum_lt ((b.drop 4).take (5 + m))
  have hnl := le_take4_lt b
  have HH := hide h
  have HN9 : Hid (9 ≤ n) := by show 9 ≤ n; omega
  have hb0 : Below w.heap.size w (w.alloc (.cells #[.int .u8 0, .slice none 0 0] 49)) := (Below.refl _ w).alloc (Nat.le_refl _) _
  have HB0 := hide hb0
  have HX : Hid ((w.alloc (.cells #[.int .u8 0, .slice none 0 0] 49)).heap[w.heap.size]? = some (.cells #[.int .u8 0, .slice none 0 0] 49 (0, 0))) := heap_alloc_new w _
  have HEE := hide hE
  have HM := hide hm
  have h9 : 9 ≤ E := by omega
  have HL := hide hl
  have HRS := hide hR
  obtain ⟨s9, k9, B9, q9, q9', _⟩ := slice_mid (l := 9) (h := E) h (by omega) (by omega)
  replace q9 : ∀ W : World, (Instr.slice 23 (.slice (some ⟨bb, o, none⟩) n c) (some (.int .i64 9)) (some (.int .i64 (E : Int))) none).run Try.prog W = .ok (.slice s9 (E - 9) k9) W := fun W => q9 W
  replace q9' : ∀ W : World, (Instr.sliceAt 23 (.slice (some ⟨bb, o, none⟩) n c) (some (.int .i64 9)) (some (.int .i64 (E : Int))) none).run Try.prog W = .ok (.slice s9 (E - 9) k9) W := fun W => q9' W
  have B9 : Bytes w (.slice s9 (E - 9) k9) ((b.drop 9).take m) := by rw [show m = E - 9 by omega]; exact B9
  have H9 := hide B9
  have HL9 : Hid (((b.drop 9).take m).length ≤ 1048576) := by show _ ≤ _; rw [List.length_take]; omega
  clear hb0 h t1 t3 t4 hR ht B4 B9 hE hm hl t2
  go_enter Try.func32, Try.ntmps32
  go_wp2_with fail
  refine (toldLong_any _ n c b _ ((unhide HH).alloc _)).mono ?_
  rintro e w1 ⟨rfl, hw1⟩
  rw [← hw1] at HX HB0
  clear hw1
  rw [unhide HT4, unhide HT0]
  go_upto_region 4 with fail
  go_region_with (first
    | (go_at_call 39; refine (sum_any (.slice s4 (E - 4) k4) ((b.drop 4).take (5 + m)) _ (by exact (unhide H4).kept fun k _ hk => (unhide HB0).block k hk) (unhide HL4)).mono ?_; rintro e w3 ⟨rfl, hb3⟩; have HX3 : Hid (w3.heap[w.heap.size]? = some (.cells #[.int .u8 0, .slice none 0 0] 49 (0, 0))) := (hb3.block w.heap.size (Array.getElem?_eq_some_iff.1 (unhide HX)).1).trans (unhide HX); have HB3 : Hid (Below w.heap.size w w3) := (unhide HB0).drew.trans (hb3.mono (unhide HB0).size); clear hb3)
    | (go_at_call 43; refine (number_any _ n c b _ (by exact (unhide HH).kept fun k _ hk => (unhide HB0).block k hk) (by have := unhide HN9; omega)).mono ?_; rintro e w' ⟨rfl, rfl⟩)
    | (go_at_call 43; refine (number_any _ n c b _ (by exact (unhide HH).kept fun k _ hk => (unhide HB3).block k hk) (by have := unhide HN9; omega)).mono ?_; rintro e w' ⟨rfl, rfl⟩))
  all_goals (
    clear H4 q4 q4'
    generalize sumB ((b.drop 4).take (5 + m)) = S at *
    generalize le (b.take 4) = X at *
    have c0 : w3.cell? ⟨w.heap.size, 0, none⟩ = some (.int .u8 0) := cell_of_row _ _ 0 _ _ _ (unhide HX3)
    have c1 : w3.cell? ⟨w.heap.size, 1, none⟩ = some (.slice none 0 0) := cell_of_row _ _ 1 _ _ _ (unhide HX3)
    have f0 : w3.frozen? ⟨w.heap.size, 0, none⟩ = false := frozen_of_row _ _ _ _ _ (unhide HX3)
    have f1 : w3.frozen? ⟨w.heap.size, 1, none⟩ = false := frozen_of_row _ _ _ _ _ (unhide HX3)
    by_cases hs : S = X
    · subst hs
      rw [bne_self_eq_false]
      have c4 : w3.cell? ⟨bb, o + 4, none⟩ = some (.int .u8 ((b.getD 4 0).toNat : Nat)) := byte_at ((unhide HH).kept fun k _ hk => (unhide HB3).block k hk) (by have := unhide HN9; omega)
      obtain ⟨K, hK⟩ : ∃ K, K = (b.getD 4 0).toNat := ⟨_, rfl⟩
      rw [← hK] at c4 HRS
      have HK := hide hK
      clear hK
      go_wp2_with fail
      refine (isKind_any _ _).mono ?_
      rintro e w' ⟨rfl, hw'⟩
      rw [hw']
      clear hw'
      by_cases hk : 1 ≤ K ∧ K ≤ 2
      · rw [decide_eq_true hk]
        have HE : Hid (takeErr b = 0) := by show _ = _; rw [unhide HRS, if_neg (by simp), if_neg (by omega)]
        have HLn : Hid (takeLen b = E) := by show _ = _; unfold takeLen; rw [if_pos (unhide HE), ← unhide HM, ← unhide HEE]
        have HRc : Hid (takeRec b = ⟨b.getD 4 0, (b.drop 9).take m⟩) := by show _ = _; unfold takeRec; rw [if_pos (unhide HE), ← unhide HM]
        clear hk
        go_upto_region 8 with fail
        have HWL : Hid (w.heap.size < w3.heap.size) := (Array.getElem?_eq_some_iff.1 (unhide HX3)).1
        go_region_with (go_at_call 36; refine (clone_any (.slice s9 (E - 9) k9) ((b.drop 9).take m) _ (by exact (unhide H9).kept fun k _ hk => (unhide HB3).block k hk) (unhide HL9)).mono ?_; rintro e w5 ⟨a5, n5, c5, rfl, hF⟩; have HF := hide hF; have HX5 : Hid (w5.heap[w.heap.size]? = some (.cells #[.int .u8 0, .slice none 0 0] 49 (0, 0))) := (hF.1.2.2.block w.heap.size (unhide HWL)).trans (unhide HX3); have d4 : w5.cell? ⟨bb, o + 4, none⟩ = some (.int .u8 (K : Nat)) := (hF.1.2.2.cell (p := ⟨bb, o + 4, none⟩) (World.block_lt_of_cell? _ _ c4)).trans c4; have d0 : w5.cell? ⟨w.heap.size, 0, none⟩ = some (.int .u8 0) := cell_of_row _ _ 0 _ _ _ (unhide HX5); have d1 : w5.cell? ⟨w.heap.size, 1, none⟩ = some (.slice none 0 0) := cell_of_row _ _ 1 _ _ _ (unhide HX5); have e0 : w5.frozen? ⟨w.heap.size, 0, none⟩ = false := frozen_of_row _ _ _ _ _ (unhide HX5); have e1 : w5.frozen? ⟨w.heap.size, 1, none⟩ = false := frozen_of_row _ _ _ _ _ (unhide HX5); clear hF)
        all_goals (
          have HO5 : Hid (Own w (.slice a5 n5 c5) ((b.drop 9).take m) w5) := (unhide HF).own ((unhide HB3).drew)
          have HV5 : Hid (∀ k, (Value.slice a5 n5 c5).ownBlock = some k → w.heap.size < k) := fun k hk => by have h1 := ((unhide HF).1.2.1 k hk).1; have h2 := unhide HWL; have h3 : w3.heap.size ≤ k := h1; omega
          go_wp2_with fail
          refine bodyPost_ret (results_ctt rfl _ _ _ _ _ _ _ rfl (set2_heap (unhide HX5) _ _) Try.underlying49 rfl (by kernel_rfl)) rfl ?_
          refine ⟨a5, n5, c5, ?_, ?_⟩
          · rw [unhide HLn, unhide HRc, unhide HE, unhide HK]; rfl
          · rw [unhide HRc]
            exact ((unhide HO5).set2 (Nat.le_refl _) (unhide HV5) _ _).fresh)
      · rw [decide_eq_false hk]
        have HE : Hid (takeErr b = 30) := by show _ = _; rw [unhide HRS, if_neg (by simp), if_pos (by omega)]
        clear hk
        go_wp2_with fail
        refine bodyPost_ret (results_ctt rfl _ _ _ _ _ _ _ rfl (set2_heap (unhide HX3) _ _) Try.underlying49 rfl (by kernel_rfl)) rfl ?_
        exact took_none (unhide HE) (by decide) (set2_below (unhide HB3) (Nat.le_refl _) _ _)
    · have HE : Hid (takeErr b = 33) := by show _ = _; rw [unhide HRS, if_pos hs]
      have hs3 : (((X : Nat) : Int) != ((S : Nat) : Int)) = true := bne_iff_ne.2 fun e => hs (by omega)
      rw [hs3]
      clear hs hs3
      go_wp2_with fail
      refine bodyPost_ret (results_ctt rfl _ _ _ _ _ _ _ rfl (set2_heap (unhide HX3) _ _) Try.underlying49 rfl (by kernel_rfl)) rfl ?_
      exact took_none (unhide HE) (by decide) (set2_below (unhide HB3) (Nat.le_refl _) _ _))

theorem recTake_any (h : Bytes w (.slice a n c) b) : Calls Try.prog 32 #[.slice a n c] w fun e w' => TookAt w b e w' := by
  by_cases ht : toldErr b = 0
  · obtain ⟨bb, o, rfl⟩ := byte_spot h (by have := (told_ok ht).1; have := (bytes_len h).1; omega)
    exact recTake_rest n c b w bb o h ht
  · exact recTake_told a n c b w h ht
end
end Go.Proofs.Ytbbglgfgelnncaa
