/- What the functions of the document's own disk (foremanref01) do: SyncHead. No statement of the seat is proved here. -/
import Derived.Test.YtoabpjdpdcpdlaaRef6
namespace Go.Proofs.Ytoabpjdpdcpdlaa
open Go.RowKit

/-- Which slice of a slot is shown: the loose one (j + 1), if there is one, or the safe one (j). -/
def HeadAt (N : Nat → Nat) (j i : Nat) : Prop := (i = j + 1 ∧ 0 < N (j + 1)) ∨ (i = j ∧ N (j + 1) = 0)

section
variable (c : Int) (P : Nat → Option Addr) (N C : Nat → Nat) (bf : Bool) (n k : Int) (w : World)

theorem ref_head_at0 (i : Nat) (h : HeadAt N 4 i) : Calls Try.prog 41 #[.agg (rl c P N C bf n k false), .int .i64 0] w fun e w' => e = .returned (.slice (P i) (N i) (C i)) ∧ Below w.heap.size w w' := by
  rcases h with ⟨rfl, h⟩ | ⟨rfl, h⟩
  · exact ref_head_loose0 c P N C bf n k w h
  · exact ref_head_safe0 c P N C bf n k w h
theorem ref_head_at1 (i : Nat) (h : HeadAt N 6 i) : Calls Try.prog 41 #[.agg (rl c P N C bf n k false), .int .i64 1] w fun e w' => e = .returned (.slice (P i) (N i) (C i)) ∧ Below w.heap.size w w' := by
  rcases h with ⟨rfl, h⟩ | ⟨rfl, h⟩
  · exact ref_head_loose1 c P N C bf n k w h
  · exact ref_head_safe1 c P N C bf n k w h

set_option maxHeartbeats 2000000 in
theorem ref_syncHead_dead : Calls Try.prog 39 #[.agg (rl c P N C bf n k true)] w fun e w' => e = .returned (.tuple #[.agg (rl c P N C bf n k true), .int .i64 3]) ∧ Below w.heap.size w w' := by
  unfold rl
  go_enter Try.func39, Try.ntmps39
  go_wp2
  refine bodyPost_ret (results_ctr rfl _ _ _ _ _ _ _ rfl (heap_last _ _ _ (by simp)) Try.underlying43 rfl (by kernel_rfl)) rfl ?_
  exact ⟨rfl, ((Below.refl _ w).alloc (Nat.le_refl _) _).alloc (by simp) _⟩

set_option maxHeartbeats 4000000 in
theorem ref_syncHead_kill (n' : Int) (hk : Kills c P N C bf n k n' true) : Calls Try.prog 39 #[.agg (rl c P N C bf n k false)] w fun e w' => e = .returned (.tuple #[.agg (rl c P N C bf n' k true), .int .i64 3]) ∧ Below w.heap.size w w' := by
  have HK := hide hk
  clear hk
  go_enter Try.func39, Try.ntmps39
  unfold rl
  go_wp2_with fail
  generalize hww : World.alloc (World.alloc w _) _ = w1
  have hg1 : w1.heap[w.heap.size]? = some (.cells (rl c P N C bf n k false) 43 (0, 0)) := by rw [← hww, Below.heap_alloc _ _ _ (by simp)]; exact heap_alloc_new w _
  have hg2 : ∃ z, z.size = 13 ∧ w1.heap[w.heap.size + 1]? = some (.cells z 43 (0, 0)) := ⟨_, rfl, by rw [← hww]; exact heap_last _ _ _ (by simp)⟩
  have hb1 : Below w.heap.size w w1 := by rw [← hww]; exact ((Below.refl _ w).alloc (Nat.le_refl _) _).alloc (by simp) _
  clear hww
  obtain ⟨z, hz, hg2⟩ := hg2
  have HZ := hide hz
  clear hz
  refine (unhide HK w1).mono ?_
  rintro e w3 ⟨rfl, hb3⟩
  have HG1 := hide (row_later hg1 hb3)
  have HG2 := hide (row_later hg2 hb3)
  have HBB := hide (hb1.trans (hb3.mono hb1.size))
  clear hg1 hg2 hb1 hb3
  go_wp2_with (first
    | refine wpList_store_row rfl 43 (.tmp 1) (.tmp 12) rfl w.heap.size (rl c P N C bf n' k true) rfl rfl _ _ (unhide HG1) (by kernel_rfl) rfl (rl_one ..) ?_
    | refine wpList_load_row rfl 43 (.tmp 1) rfl w.heap.size rfl _ _ _ _ (setRow_heap w3 w.heap.size _ (rl c P N C bf n' k true) _ _ (unhide HG1)) Try.underlying43 rfl (by kernel_rfl) ?_
    | refine wpList_store_row rfl 43 (.tmp 2) (.tmp 15) rfl (w.heap.size + 1) (rl c P N C bf n' k true) rfl rfl _ _ ((setRow_other w3 w.heap.size (w.heap.size + 1) (rl c P N C bf n' k true) (by omega)).trans (unhide HG2)) (by kernel_rfl) (unhide HZ) (rl_one ..) ?_)
  refine bodyPost_ret (results_ctr rfl _ _ _ _ _ _ _ rfl (setRow_heap _ _ _ _ _ _ ((setRow_other w3 w.heap.size (w.heap.size + 1) (rl c P N C bf n' k true) (by omega)).trans (unhide HG2))) Try.underlying43 rfl (by kernel_rfl)) rfl ?_
  exact ⟨rfl, below_setRow (below_setRow (unhide HBB) (Nat.le_refl _) _) (by omega) _⟩

set_option maxHeartbeats 4000000 in
theorem ref_syncHead_ok (n' : Int) (hk : Kills c P N C bf n k n' false) (i0 i1 : Nat) (h0 : HeadAt N 4 i0) (h1 : HeadAt N 6 i1) :
    Calls Try.prog 39 #[.agg (rl c P N C bf n k false)] w fun e w' => e = .returned (.tuple #[.agg (rl c (upd (upd (upd (upd P 4 (P i0)) 5 none) 6 (P i1)) 7 none) (upd (upd (upd (upd N 4 (N i0)) 5 0) 6 (N i1)) 7 0) (upd (upd (upd (upd C 4 (C i0)) 5 0) 6 (C i1)) 7 0) bf n' k false), .int .i64 0]) ∧ Below w.heap.size w w' := by
  have HK := hide hk
  have HA0 := hide h0
  obtain ⟨Pa, hPa⟩ : ∃ Pa, Pa = upd (upd P 4 (P i0)) 5 none := ⟨_, rfl⟩
  obtain ⟨Na, hNa⟩ : ∃ Na, Na = upd (upd N 4 (N i0)) 5 0 := ⟨_, rfl⟩
  obtain ⟨Ca, hCa⟩ : ∃ Ca, Ca = upd (upd C 4 (C i0)) 5 0 := ⟨_, rfl⟩
  have hi1 : i1 ≠ 4 ∧ i1 ≠ 5 := by rcases h1 with ⟨h, _⟩ | ⟨h, _⟩ <;> omega
  have hP1 : P i1 = Pa i1 := by rw [hPa, upd_other _ _ hi1.2, upd_other _ _ hi1.1]
  have hN1 : N i1 = Na i1 := by rw [hNa, upd_other _ _ hi1.2, upd_other _ _ hi1.1]
  have hC1 : C i1 = Ca i1 := by rw [hCa, upd_other _ _ hi1.2, upd_other _ _ hi1.1]
  have HA1 : Hid (HeadAt Na 6 i1) := by
    show HeadAt Na 6 i1
    unfold HeadAt at *
    rw [hNa, upd_other _ _ (by omega), upd_other _ _ (by omega)]
    exact h1
  rw [← hPa, ← hNa, ← hCa, hP1, hN1, hC1]
  have HPa := hide hPa
  have HNa := hide hNa
  have HCa := hide hCa
  clear hk h0 h1 hPa hNa hCa hi1 hP1 hN1 hC1
  go_enter Try.func39, Try.ntmps39
  unfold rl
  go_wp2_with fail
  generalize hww : World.alloc (World.alloc w _) _ = w1
  have hg1 : w1.heap[w.heap.size]? = some (.cells (rl c P N C bf n k false) 43 (0, 0)) := by rw [← hww, Below.heap_alloc _ _ _ (by simp)]; exact heap_alloc_new w _
  have hg2 : ∃ z, z.size = 13 ∧ w1.heap[w.heap.size + 1]? = some (.cells z 43 (0, 0)) := ⟨_, rfl, by rw [← hww]; exact heap_last _ _ _ (by simp)⟩
  have hb1 : Below w.heap.size w w1 := by rw [← hww]; exact ((Below.refl _ w).alloc (Nat.le_refl _) _).alloc (by simp) _
  clear hww
  obtain ⟨z, hz, hg2⟩ := hg2
  have HZ := hide hz
  clear hz
  refine (unhide HK w1).mono ?_
  rintro e w3 ⟨rfl, hb3⟩
  have HG1 := hide (row_later hg1 hb3)
  have HG2 := hide (row_later hg2 hb3)
  have HBB := hide (hb1.trans (hb3.mono hb1.size))
  clear hg1 hg2 hb1 hb3
  go_wp2_with (refine wpList_store_row rfl 43 (.tmp 1) (.tmp 12) rfl w.heap.size (rl c P N C bf n' k false) rfl rfl _ _ (unhide HG1) (by kernel_rfl) rfl (rl_one ..) ?_)
  have hg2' := (setRow_other w3 w.heap.size (w.heap.size + 1) (rl c P N C bf n' k false) (by omega)).trans (unhide HG2)
  have hg1' := setRow_heap w3 w.heap.size _ (rl c P N C bf n' k false) _ _ (unhide HG1)
  have hbb := below_setRow (unhide HBB) (Nat.le_refl w.heap.size) (rl c P N C bf n' k false)
  generalize w3.setRow _ _ = w4 at *
  clear HG1 HG2 HBB
  have HG1 := hide hg1'
  have HG2 := hide hg2'
  have HBB := hide hbb
  clear hg1' hg2' hbb
  refine wp_loop_rounds 3 ?_
  rw [rounds_succ]; go_wp2_with (refine wpList_load_row rfl 43 (.tmp 1) rfl w.heap.size rfl _ _ _ _ (unhide HG1) Try.underlying43 rfl (by kernel_rfl) ?_)
  refine (ref_head_at0 c P N C bf n' k _ i0 (unhide HA0)).mono ?_
  rintro e w5 ⟨rfl, hb5⟩
  have hg1' := row_later (unhide HG1) hb5
  have hg2' := row_later (unhide HG2) hb5
  obtain ⟨y0, y1, y2, y3, y4, y5, y6, y7, y8, y9, y10, y11, y12⟩ := row13 hg1'
  have f1 := rl_frz hg1' 5
  have f2 := rl_frz hg1' 6
  have hg1s : ((w5.setCell ⟨w.heap.size, 5, none⟩ (.slice (P i0) (N i0) (C i0))).setCell ⟨w.heap.size, 6, none⟩ (.slice none 0 0)).heap[w.heap.size]? = some (.cells (rl c (upd (upd P 4 (P i0)) 5 none) (upd (upd N 4 (N i0)) 5 0) (upd (upd C 4 (C i0)) 5 0) bf n' k false) 43 (0, 0)) := rl_set (rl_set hg1' 4 (by omega) (P i0) (N i0) (C i0)) 5 (by omega) none 0 0
  have hg2s := (Below.heap_setCell (w5.setCell ⟨w.heap.size, 5, none⟩ (.slice (P i0) (N i0) (C i0))) ⟨w.heap.size, 6, none⟩ (.slice none 0 0) (w.heap.size + 1) (by show w.heap.size + 1 ≠ w.heap.size; omega)).trans ((Below.heap_setCell w5 ⟨w.heap.size, 5, none⟩ (.slice (P i0) (N i0) (C i0)) (w.heap.size + 1) (by show w.heap.size + 1 ≠ w.heap.size; omega)).trans hg2')
  have hbb := (((unhide HBB).trans (hb5.mono (unhide HBB).size)).setCell (p := ⟨w.heap.size, 5, none⟩) (Nat.le_refl w.heap.size) (.slice (P i0) (N i0) (C i0))).setCell (p := ⟨w.heap.size, 6, none⟩) (Nat.le_refl w.heap.size) (.slice none 0 0)
  clear HG1 HG2 HBB
  have HG1 := hide hg1s
  have HG2 := hide hg2s
  have HBB := hide hbb
  clear hg1' hg2' hg1s hg2s hbb hb5
  go_wp2_with fail
  generalize World.setCell (World.setCell w5 _ _) _ _ = w6 at *
  clear f1 f2 y0 y1 y2 y3 y4 y5 y6 y7 y8 y9 y10 y11 y12
  rw [← unhide HPa, ← unhide HNa, ← unhide HCa] at HG1
  rw [rounds_succ]; go_wp2_with (refine wpList_load_row rfl 43 (.tmp 1) rfl w.heap.size rfl _ _ _ _ (unhide HG1) Try.underlying43 rfl (by kernel_rfl) ?_)
  refine (ref_head_at1 c Pa Na Ca bf n' k _ i1 (unhide HA1)).mono ?_
  rintro e w7 ⟨rfl, hb5⟩
  have hg1' := row_later (unhide HG1) hb5
  have hg2' := row_later (unhide HG2) hb5
  obtain ⟨y0, y1, y2, y3, y4, y5, y6, y7, y8, y9, y10, y11, y12⟩ := row13 hg1'
  have f1 := rl_frz hg1' 7
  have f2 := rl_frz hg1' 8
  have hg1s : ((w7.setCell ⟨w.heap.size, 7, none⟩ (.slice (Pa i1) (Na i1) (Ca i1))).setCell ⟨w.heap.size, 8, none⟩ (.slice none 0 0)).heap[w.heap.size]? = some (.cells (rl c (upd (upd Pa 6 (Pa i1)) 7 none) (upd (upd Na 6 (Na i1)) 7 0) (upd (upd Ca 6 (Ca i1)) 7 0) bf n' k false) 43 (0, 0)) := rl_set (rl_set hg1' 6 (by omega) (Pa i1) (Na i1) (Ca i1)) 7 (by omega) none 0 0
  have hg2s := (Below.heap_setCell (w7.setCell ⟨w.heap.size, 7, none⟩ (.slice (Pa i1) (Na i1) (Ca i1))) ⟨w.heap.size, 8, none⟩ (.slice none 0 0) (w.heap.size + 1) (by show w.heap.size + 1 ≠ w.heap.size; omega)).trans ((Below.heap_setCell w7 ⟨w.heap.size, 7, none⟩ (.slice (Pa i1) (Na i1) (Ca i1)) (w.heap.size + 1) (by show w.heap.size + 1 ≠ w.heap.size; omega)).trans hg2')
  have hbb := (((unhide HBB).trans (hb5.mono (unhide HBB).size)).setCell (p := ⟨w.heap.size, 7, none⟩) (Nat.le_refl w.heap.size) (.slice (Pa i1) (Na i1) (Ca i1))).setCell (p := ⟨w.heap.size, 8, none⟩) (Nat.le_refl w.heap.size) (.slice none 0 0)
  clear HG1 HG2 HBB
  have HG1 := hide hg1s
  have HG2 := hide hg2s
  have HBB := hide hbb
  clear hg1' hg2' hg1s hg2s hbb hb5
  go_wp2_with fail
  generalize World.setCell (World.setCell w7 _ _) _ _ = w8 at *
  clear f1 f2 y0 y1 y2 y3 y4 y5 y6 y7 y8 y9 y10 y11 y12
  rw [rounds_succ]; go_wp2_with (first
    | refine wpList_load_row rfl 43 (.tmp 1) rfl w.heap.size rfl _ _ _ _ (unhide HG1) Try.underlying43 rfl (by kernel_rfl) ?_
    | refine wpList_store_row rfl 43 (.tmp 2) (.tmp 27) rfl (w.heap.size + 1) _ rfl rfl _ _ (unhide HG2) (by kernel_rfl) (unhide HZ) (rl_one ..) ?_)
  refine bodyPost_ret (results_ctr rfl _ _ _ _ _ _ _ rfl (setRow_heap _ _ _ _ _ _ (unhide HG2)) Try.underlying43 rfl (by kernel_rfl)) rfl ?_
  exact ⟨rfl, below_setRow (unhide HBB) (by omega) _⟩

end
end Go.Proofs.Ytoabpjdpdcpdlaa
