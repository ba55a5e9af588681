/- What the functions of the document's own disk (foremanref01) do: Sync. No statement of the seat is proved here. -/
import Derived.Test.YtbpjlkjokafdnaaRef6
namespace Go.Proofs.Ytbpjlkjokafdnaa
open Go.RowKit

section
variable (c : Int) (P : Nat → Option Addr) (N C : Nat → Nat) (bf : Bool) (n k : Int) (w : World)

set_option maxHeartbeats 2000000 in
theorem ref_sync_dead (s : Int) : Calls Try.prog 31 #[.agg (rl c P N C bf n k true), .int .i64 s] w fun e w' => e = .returned (.tuple #[.agg (rl c P N C bf n k true), .int .i64 3]) ∧ Below w.heap.size w w' := by
  unfold rl
  go_enter Try.func31, Try.ntmps31
  go_wp2
  refine bodyPost_ret (results_ct rfl _ _ _ _ _ _ _ rfl (heap_last _ _ _ (by simp)) Try.underlying33 rfl (by kernel_rfl)) rfl ?_
  exact ⟨rfl, ((Below.refl _ w).alloc (Nat.le_refl _) _).alloc (by simp) _⟩

set_option maxHeartbeats 2000000 in
theorem ref_sync_out_a (s : Int) (hs : s < 0) : Calls Try.prog 31 #[.agg (rl c P N C bf n k false), .int .i64 s] w fun e w' => e = .returned (.tuple #[.agg (rl c P N C bf n k false), .int .i64 2]) ∧ Below w.heap.size w w' := by
  unfold rl
  go_enter Try.func31, Try.ntmps31
  go_wp2
  refine bodyPost_ret (results_ct rfl _ _ _ _ _ _ _ rfl (heap_last _ _ _ (by simp)) Try.underlying33 rfl (by kernel_rfl)) rfl ?_
  exact ⟨rfl, ((Below.refl _ w).alloc (Nat.le_refl _) _).alloc (by simp) _⟩

set_option maxHeartbeats 2000000 in
theorem ref_sync_out_b (s : Int) (h1 : ¬ s < 0) (h2 : s > 1) : Calls Try.prog 31 #[.agg (rl c P N C bf n k false), .int .i64 s] w fun e w' => e = .returned (.tuple #[.agg (rl c P N C bf n k false), .int .i64 2]) ∧ Below w.heap.size w w' := by
  unfold rl
  go_enter Try.func31, Try.ntmps31
  go_wp2
  refine bodyPost_ret (results_ct rfl _ _ _ _ _ _ _ rfl (heap_last _ _ _ (by simp)) Try.underlying33 rfl (by kernel_rfl)) rfl ?_
  exact ⟨rfl, ((Below.refl _ w).alloc (Nat.le_refl _) _).alloc (by simp) _⟩

theorem ref_sync_out (s : Int) (hs : s < 0 ∨ 2 ≤ s) : Calls Try.prog 31 #[.agg (rl c P N C bf n k false), .int .i64 s] w fun e w' => e = .returned (.tuple #[.agg (rl c P N C bf n k false), .int .i64 2]) ∧ Below w.heap.size w w' := by
  rcases hs with hs | hs
  · exact ref_sync_out_a c P N C bf n k w s hs
  · exact ref_sync_out_b c P N C bf n k w s (by omega) (by omega)

set_option maxHeartbeats 4000000 in
theorem ref_sync_kill0 (n' : Int) (hk : Kills c P N C bf n k n' true) : Calls Try.prog 31 #[.agg (rl c P N C bf n k false), .int .i64 0] w fun e w' => e = .returned (.tuple #[.agg (rl c P N C bf n' k true), .int .i64 3]) ∧ Below w.heap.size w w' := by
  have HK := hide hk
  clear hk
  go_enter Try.func31, Try.ntmps31
  unfold rl
  go_wp2_with fail
  generalize hww : World.alloc (World.alloc w _) _ = w1
  have hg1 : w1.heap[w.heap.size]? = some (.cells (rl c P N C bf n k false) 33 (0, 0)) := by rw [← hww, Below.heap_alloc _ _ _ (by simp)]; exact heap_alloc_new w _
  have hg2 : ∃ z, z.size = 13 ∧ w1.heap[w.heap.size + 1]? = some (.cells z 33 (0, 0)) := ⟨_, rfl, by rw [← hww]; exact heap_last _ _ _ (by simp)⟩
  have hb1 : Below w.heap.size w w1 := by rw [← hww]; exact ((Below.refl _ w).alloc (Nat.le_refl _) _).alloc (by simp) _
  clear hww
  obtain ⟨z, hz, hg2⟩ := hg2
  have HZ := hide hz
  clear hz
  refine (unhide HK w1).mono ?_
  rintro e w3 ⟨rfl, hb3⟩
  have HG1 := hide (row_later hg1 hb3)
  have HG2 := hide (row_later hg2 hb3)
  have HBB := hide (hb1.trans (hb3.mono hb1.size))
  clear hg1 hg2 hb1 hb3
  go_wp2_with (first
    | refine wpList_store_row rfl 33 (.tmp 2) (.tmp 20) rfl w.heap.size (rl c P N C bf n' k true) rfl rfl _ _ (unhide HG1) (by kernel_rfl) rfl (rl_one ..) ?_
    | refine wpList_load_row rfl 33 (.tmp 2) rfl w.heap.size rfl _ _ _ _ (setRow_heap w3 w.heap.size _ (rl c P N C bf n' k true) _ _ (unhide HG1)) Try.underlying33 rfl (by kernel_rfl) ?_
    | refine wpList_store_row rfl 33 (.tmp 4) (.tmp 23) rfl (w.heap.size + 1) (rl c P N C bf n' k true) rfl rfl _ _ ((setRow_other w3 w.heap.size (w.heap.size + 1) (rl c P N C bf n' k true) (by omega)).trans (unhide HG2)) (by kernel_rfl) (unhide HZ) (rl_one ..) ?_)
  refine bodyPost_ret (results_ct rfl _ _ _ _ _ _ _ rfl (setRow_heap _ _ _ _ _ _ ((setRow_other w3 w.heap.size (w.heap.size + 1) (rl c P N C bf n' k true) (by omega)).trans (unhide HG2))) Try.underlying33 rfl (by kernel_rfl)) rfl ?_
  exact ⟨rfl, below_setRow (below_setRow (unhide HBB) (Nat.le_refl _) _) (by omega) _⟩

set_option maxHeartbeats 4000000 in
theorem ref_sync_kill1 (n' : Int) (hk : Kills c P N C bf n k n' true) : Calls Try.prog 31 #[.agg (rl c P N C bf n k false), .int .i64 1] w fun e w' => e = .returned (.tuple #[.agg (rl c P N C bf n' k true), .int .i64 3]) ∧ Below w.heap.size w w' := by
  have HK := hide hk
  clear hk
  go_enter Try.func31, Try.ntmps31
  unfold rl
  go_wp2_with fail
  generalize hww : World.alloc (World.alloc w _) _ = w1
  have hg1 : w1.heap[w.heap.size]? = some (.cells (rl c P N C bf n k false) 33 (0, 0)) := by rw [← hww, Below.heap_alloc _ _ _ (by simp)]; exact heap_alloc_new w _
  have hg2 : ∃ z, z.size = 13 ∧ w1.heap[w.heap.size + 1]? = some (.cells z 33 (0, 0)) := ⟨_, rfl, by rw [← hww]; exact heap_last _ _ _ (by simp)⟩
  have hb1 : Below w.heap.size w w1 := by rw [← hww]; exact ((Below.refl _ w).alloc (Nat.le_refl _) _).alloc (by simp) _
  clear hww
  obtain ⟨z, hz, hg2⟩ := hg2
  have HZ := hide hz
  clear hz
  refine (unhide HK w1).mono ?_
  rintro e w3 ⟨rfl, hb3⟩
  have HG1 := hide (row_later hg1 hb3)
  have HG2 := hide (row_later hg2 hb3)
  have HBB := hide (hb1.trans (hb3.mono hb1.size))
  clear hg1 hg2 hb1 hb3
  go_wp2_with (first
    | refine wpList_store_row rfl 33 (.tmp 2) (.tmp 20) rfl w.heap.size (rl c P N C bf n' k true) rfl rfl _ _ (unhide HG1) (by kernel_rfl) rfl (rl_one ..) ?_
    | refine wpList_load_row rfl 33 (.tmp 2) rfl w.heap.size rfl _ _ _ _ (setRow_heap w3 w.heap.size _ (rl c P N C bf n' k true) _ _ (unhide HG1)) Try.underlying33 rfl (by kernel_rfl) ?_
    | refine wpList_store_row rfl 33 (.tmp 4) (.tmp 23) rfl (w.heap.size + 1) (rl c P N C bf n' k true) rfl rfl _ _ ((setRow_other w3 w.heap.size (w.heap.size + 1) (rl c P N C bf n' k true) (by omega)).trans (unhide HG2)) (by kernel_rfl) (unhide HZ) (rl_one ..) ?_)
  refine bodyPost_ret (results_ct rfl _ _ _ _ _ _ _ rfl (setRow_heap _ _ _ _ _ _ ((setRow_other w3 w.heap.size (w.heap.size + 1) (rl c P N C bf n' k true) (by omega)).trans (unhide HG2))) Try.underlying33 rfl (by kernel_rfl)) rfl ?_
  exact ⟨rfl, below_setRow (below_setRow (unhide HBB) (Nat.le_refl _) _) (by omega) _⟩

set_option maxHeartbeats 4000000 in
theorem ref_sync_ok0 (n' : Int) (hk : Kills c P N C bf n k n' false) (x : Nat → List UInt8) (hb : ∀ j, j < 4 → Bytes w (.slice (P j) (N j) (C j)) (x j)) (hl : (x 0).length + (x 1).length ≤ 1048576) :
    Calls Try.prog 31 #[.agg (rl c P N C bf n k false), .int .i64 0] w fun e w' => ∃ ra rc, e = .returned (.tuple #[.agg (rl c (upd (upd P 0 ra) 1 none) (upd (upd N 0 (x 0 ++ x 1).length) 1 0) (upd (upd C 0 rc) 1 0) bf n' k false), .int .i64 0]) ∧ Bytes w' (.slice ra (x 0 ++ x 1).length rc) (x 0 ++ x 1) ∧ (∀ k, (Value.slice ra (x 0 ++ x 1).length rc).ownBlock = some k → w.heap.size ≤ k) ∧ Below w.heap.size w w' := by
  have HK := hide hk
  have HB := hide hb
  have HXL : Hid ((x 0).length + (x 1).length ≤ 140737488355328) := by show _ ≤ _; omega
  obtain ⟨ln, hln⟩ : ∃ ln, ln = (x 0 ++ x 1).length := ⟨_, rfl⟩
  have HLN := hide hln
  rw [← hln]
  clear hk hb hl hln
  go_enter Try.func31, Try.ntmps31
  unfold rl
  go_wp2_with fail
  generalize hww : World.alloc (World.alloc w _) _ = w1
  have hg1 : w1.heap[w.heap.size]? = some (.cells (rl c P N C bf n k false) 33 (0, 0)) := by rw [← hww, Below.heap_alloc _ _ _ (by simp)]; exact heap_alloc_new w _
  have hg2 : ∃ z, z.size = 13 ∧ w1.heap[w.heap.size + 1]? = some (.cells z 33 (0, 0)) := ⟨_, rfl, by rw [← hww]; exact heap_last _ _ _ (by simp)⟩
  have hb1 : Below w.heap.size w w1 := by rw [← hww]; exact ((Below.refl _ w).alloc (Nat.le_refl _) _).alloc (by simp) _
  clear hww
  obtain ⟨z, hz, hg2⟩ := hg2
  have HZ := hide hz
  clear hz
  refine (unhide HK w1).mono ?_
  rintro e w3 ⟨rfl, hb3⟩
  have HG1 := hide (row_later hg1 hb3)
  have HG2 := hide (row_later hg2 hb3)
  have HBB := hide (hb1.trans (hb3.mono hb1.size))
  clear hg1 hg2 hb1 hb3
  go_upto_region 8 with (refine wpList_store_row rfl 33 (.tmp 2) (.tmp 20) rfl w.heap.size (rl c P N C bf n' k false) rfl rfl _ _ (unhide HG1) (by kernel_rfl) rfl (rl_one ..) ?_)
  have hg2' := (setRow_other w3 w.heap.size (w.heap.size + 1) (rl c P N C bf n' k false) (by omega)).trans (unhide HG2)
  have hg1' := setRow_heap w3 w.heap.size _ (rl c P N C bf n' k false) _ _ (unhide HG1)
  have hbb := below_setRow (unhide HBB) (Nat.le_refl w.heap.size) (rl c P N C bf n' k false)
  generalize w3.setRow _ _ = w4 at *
  clear HG1 HG2 HBB
  have HG1 := hide hg1'
  have HG2 := hide hg2'
  have HBB := hide hbb
  have hgl : w.heap.size < w4.heap.size := lt_of_row hg1'
  have hgl2 : w.heap.size + 1 < w4.heap.size := lt_of_row hg2'
  clear hg1' hg2' hbb
  have HX0 : Hid (Bytes w4 (.slice (P 0) (N 0) (C 0)) (x 0)) := (unhide HB 0 (by omega)).kept fun k' _ hk' => (unhide HBB).block k' hk'
  have HX1 : Hid (Bytes w4 (.slice (P 1) (N 1) (C 1)) (x 1)) := (unhide HB 1 (by omega)).kept fun k' _ hk' => (unhide HBB).block k' hk'
  go_wp2_with (refine wpList_load_row rfl 33 (.tmp 2) rfl w.heap.size rfl _ _ _ _ (unhide HG1) Try.underlying33 rfl (by kernel_rfl) ?_)
  refine (all_at0 c P N C bf n' k false _ (x 0) (x 1) (unhide HX0) (unhide HX1) (unhide HXL)).mono ?_
  rintro e w5 ⟨r, rfl, hF⟩
  obtain ⟨ra, rc, hr, _⟩ := hF.1.form
  rw [← unhide HLN] at hr
  subst hr
  have hg1' : w5.heap[w.heap.size]? = _ := (hF.2.2.block w.heap.size hgl).trans (unhide HG1)
  have hg2' : w5.heap[w.heap.size + 1]? = _ := (hF.2.2.block (w.heap.size + 1) hgl2).trans (unhide HG2)
  obtain ⟨y0, y1, y2, y3, y4, y5, y6, y7, y8, y9, y10, y11, y12⟩ := row13 hg1'
  have f1 := rl_frz hg1' 1
  have f2 := rl_frz hg1' 2
  have hg1s : ((w5.setCell ⟨w.heap.size, 1, none⟩ (.slice ra ln rc)).setCell ⟨w.heap.size, 2, none⟩ (.slice none 0 0)).heap[w.heap.size]? = some (.cells (rl c (upd (upd P 0 ra) 1 none) (upd (upd N 0 ln) 1 0) (upd (upd C 0 rc) 1 0) bf n' k false) 33 (0, 0)) := rl_set (rl_set hg1' 0 (by omega) ra ln rc) 1 (by omega) none 0 0
  have hg2s := (Below.heap_setCell (w5.setCell ⟨w.heap.size, 1, none⟩ (.slice ra ln rc)) ⟨w.heap.size, 2, none⟩ (.slice none 0 0) (w.heap.size + 1) (by show w.heap.size + 1 ≠ w.heap.size; omega)).trans ((Below.heap_setCell w5 ⟨w.heap.size, 1, none⟩ (.slice ra ln rc) (w.heap.size + 1) (by show w.heap.size + 1 ≠ w.heap.size; omega)).trans hg2')
  have hbb : Below w.heap.size w w5 := (unhide HBB).trans (hF.2.2.mono (Nat.le_of_lt hgl))
  have hbb2 := (hbb.setCell (p := ⟨w.heap.size, 1, none⟩) (Nat.le_refl w.heap.size) (.slice ra ln rc)).setCell (p := ⟨w.heap.size, 2, none⟩) (Nat.le_refl w.heap.size) (.slice none 0 0)
  have hOB : ∀ k', (Value.slice ra ln rc).ownBlock = some k' → w.heap.size + 1 < k' := fun k' hk' => by have := (hF.2.1 k' hk').1; omega
  have hBf : Bytes ((w5.setCell ⟨w.heap.size, 1, none⟩ (.slice ra ln rc)).setCell ⟨w.heap.size, 2, none⟩ (.slice none 0 0)) (.slice ra ln rc) (x 0 ++ x 1) := (hF.1.kept fun k' hk' _ => Below.heap_setCell _ _ _ _ (by have := hOB k' hk'; show k' ≠ w.heap.size; omega)).kept fun k' hk' _ => Below.heap_setCell _ _ _ _ (by have := hOB k' hk'; show k' ≠ w.heap.size; omega)
  have HG1s := hide hg1s
  have HG2s := hide hg2s
  have HB2 := hide hbb2
  have HBF := hide hBf
  have HOB := hide hOB
  clear hg1' hg2' hg1s hg2s hbb hbb2 hBf hOB hF HG1 HG2 HBB HX0 HX1
  go_upto_region 9 with fail
  generalize World.setCell (World.setCell w5 _ _) _ _ = w6 at *
  clear f1 f2 hgl hgl2 y0 y1 y2 y3 y4 y5 y6 y7 y8 y9 y10 y11 y12
  go_wp2_with (first
    | refine wpList_load_row rfl 33 (.tmp 2) rfl w.heap.size rfl _ _ _ _ (unhide HG1s) Try.underlying33 rfl (by kernel_rfl) ?_
    | refine wpList_store_row rfl 33 (.tmp 4) (.tmp 31) rfl (w.heap.size + 1) _ rfl rfl _ _ (unhide HG2s) (by kernel_rfl) (unhide HZ) (rl_one ..) ?_)
  refine bodyPost_ret (results_ct rfl _ _ _ _ _ _ _ rfl (setRow_heap _ _ _ _ _ _ (unhide HG2s)) Try.underlying33 rfl (by kernel_rfl)) rfl ?_
  exact ⟨ra, rc, rfl, (unhide HBF).kept fun k' hk' _ => setRow_other _ _ _ _ (by have := unhide HOB k' hk'; omega), fun k' hk' => by have := unhide HOB k' hk'; omega, below_setRow (unhide HB2) (by omega) _⟩

set_option maxHeartbeats 4000000 in
theorem ref_sync_ok1 (n' : Int) (hk : Kills c P N C bf n k n' false) (x : Nat → List UInt8) (hb : ∀ j, j < 4 → Bytes w (.slice (P j) (N j) (C j)) (x j)) (hl : (x 2).length + (x 3).length ≤ 1048576) :
    Calls Try.prog 31 #[.agg (rl c P N C bf n k false), .int .i64 1] w fun e w' => ∃ ra rc, e = .returned (.tuple #[.agg (rl c (upd (upd P 2 ra) 3 none) (upd (upd N 2 (x 2 ++ x 3).length) 3 0) (upd (upd C 2 rc) 3 0) bf n' k false), .int .i64 0]) ∧ Bytes w' (.slice ra (x 2 ++ x 3).length rc) (x 2 ++ x 3) ∧ (∀ k, (Value.slice ra (x 2 ++ x 3).length rc).ownBlock = some k → w.heap.size ≤ k) ∧ Below w.heap.size w w' := by
  have HK := hide hk
  have HB := hide hb
  have HXL : Hid ((x 2).length + (x 3).length ≤ 140737488355328) := by show _ ≤ _; omega
  obtain ⟨ln, hln⟩ : ∃ ln, ln = (x 2 ++ x 3).length := ⟨_, rfl⟩
  have HLN := hide hln
  rw [← hln]
  clear hk hb hl hln
  go_enter Try.func31, Try.ntmps31
  unfold rl
  go_wp2_with fail
  generalize hww : World.alloc (World.alloc w _) _ = w1
  have hg1 : w1.heap[w.heap.size]? = some (.cells (rl c P N C bf n k false) 33 (0, 0)) := by rw [← hww, Below.heap_alloc _ _ _ (by simp)]; exact heap_alloc_new w _
  have hg2 : ∃ z, z.size = 13 ∧ w1.heap[w.heap.size + 1]? = some (.cells z 33 (0, 0)) := ⟨_, rfl, by rw [← hww]; exact heap_last _ _ _ (by simp)⟩
  have hb1 : Below w.heap.size w w1 := by rw [← hww]; exact ((Below.refl _ w).alloc (Nat.le_refl _) _).alloc (by simp) _
  clear hww
  obtain ⟨z, hz, hg2⟩ := hg2
  have HZ := hide hz
  clear hz
  refine (unhide HK w1).mono ?_
  rintro e w3 ⟨rfl, hb3⟩
  have HG1 := hide (row_later hg1 hb3)
  have HG2 := hide (row_later hg2 hb3)
  have HBB := hide (hb1.trans (hb3.mono hb1.size))
  clear hg1 hg2 hb1 hb3
  go_upto_region 8 with (refine wpList_store_row rfl 33 (.tmp 2) (.tmp 20) rfl w.heap.size (rl c P N C bf n' k false) rfl rfl _ _ (unhide HG1) (by kernel_rfl) rfl (rl_one ..) ?_)
  have hg2' := (setRow_other w3 w.heap.size (w.heap.size + 1) (rl c P N C bf n' k false) (by omega)).trans (unhide HG2)
  have hg1' := setRow_heap w3 w.heap.size _ (rl c P N C bf n' k false) _ _ (unhide HG1)
  have hbb := below_setRow (unhide HBB) (Nat.le_refl w.heap.size) (rl c P N C bf n' k false)
  generalize w3.setRow _ _ = w4 at *
  clear HG1 HG2 HBB
  have HG1 := hide hg1'
  have HG2 := hide hg2'
  have HBB := hide hbb
  have hgl : w.heap.size < w4.heap.size := lt_of_row hg1'
  have hgl2 : w.heap.size + 1 < w4.heap.size := lt_of_row hg2'
  clear hg1' hg2' hbb
  have HX0 : Hid (Bytes w4 (.slice (P 2) (N 2) (C 2)) (x 2)) := (unhide HB 2 (by omega)).kept fun k' _ hk' => (unhide HBB).block k' hk'
  have HX1 : Hid (Bytes w4 (.slice (P 3) (N 3) (C 3)) (x 3)) := (unhide HB 3 (by omega)).kept fun k' _ hk' => (unhide HBB).block k' hk'
  go_wp2_with (refine wpList_load_row rfl 33 (.tmp 2) rfl w.heap.size rfl _ _ _ _ (unhide HG1) Try.underlying33 rfl (by kernel_rfl) ?_)
  refine (all_at1 c P N C bf n' k false _ (x 2) (x 3) (unhide HX0) (unhide HX1) (unhide HXL)).mono ?_
  rintro e w5 ⟨r, rfl, hF⟩
  obtain ⟨ra, rc, hr, _⟩ := hF.1.form
  rw [← unhide HLN] at hr
  subst hr
  have hg1' : w5.heap[w.heap.size]? = _ := (hF.2.2.block w.heap.size hgl).trans (unhide HG1)
  have hg2' : w5.heap[w.heap.size + 1]? = _ := (hF.2.2.block (w.heap.size + 1) hgl2).trans (unhide HG2)
  obtain ⟨y0, y1, y2, y3, y4, y5, y6, y7, y8, y9, y10, y11, y12⟩ := row13 hg1'
  have f1 := rl_frz hg1' 3
  have f2 := rl_frz hg1' 4
  have hg1s : ((w5.setCell ⟨w.heap.size, 3, none⟩ (.slice ra ln rc)).setCell ⟨w.heap.size, 4, none⟩ (.slice none 0 0)).heap[w.heap.size]? = some (.cells (rl c (upd (upd P 2 ra) 3 none) (upd (upd N 2 ln) 3 0) (upd (upd C 2 rc) 3 0) bf n' k false) 33 (0, 0)) := rl_set (rl_set hg1' 2 (by omega) ra ln rc) 3 (by omega) none 0 0
  have hg2s := (Below.heap_setCell (w5.setCell ⟨w.heap.size, 3, none⟩ (.slice ra ln rc)) ⟨w.heap.size, 4, none⟩ (.slice none 0 0) (w.heap.size + 1) (by show w.heap.size + 1 ≠ w.heap.size; omega)).trans ((Below.heap_setCell w5 ⟨w.heap.size, 3, none⟩ (.slice ra ln rc) (w.heap.size + 1) (by show w.heap.size + 1 ≠ w.heap.size; omega)).trans hg2')
  have hbb : Below w.heap.size w w5 := (unhide HBB).trans (hF.2.2.mono (Nat.le_of_lt hgl))
  have hbb2 := (hbb.setCell (p := ⟨w.heap.size, 3, none⟩) (Nat.le_refl w.heap.size) (.slice ra ln rc)).setCell (p := ⟨w.heap.size, 4, none⟩) (Nat.le_refl w.heap.size) (.slice none 0 0)
  have hOB : ∀ k', (Value.slice ra ln rc).ownBlock = some k' → w.heap.size + 1 < k' := fun k' hk' => by have := (hF.2.1 k' hk').1; omega
  have hBf : Bytes ((w5.setCell ⟨w.heap.size, 3, none⟩ (.slice ra ln rc)).setCell ⟨w.heap.size, 4, none⟩ (.slice none 0 0)) (.slice ra ln rc) (x 2 ++ x 3) := (hF.1.kept fun k' hk' _ => Below.heap_setCell _ _ _ _ (by have := hOB k' hk'; show k' ≠ w.heap.size; omega)).kept fun k' hk' _ => Below.heap_setCell _ _ _ _ (by have := hOB k' hk'; show k' ≠ w.heap.size; omega)
  have HG1s := hide hg1s
  have HG2s := hide hg2s
  have HB2 := hide hbb2
  have HBF := hide hBf
  have HOB := hide hOB
  clear hg1' hg2' hg1s hg2s hbb hbb2 hBf hOB hF HG1 HG2 HBB HX0 HX1
  go_upto_region 9 with fail
  generalize World.setCell (World.setCell w5 _ _) _ _ = w6 at *
  clear f1 f2 hgl hgl2 y0 y1 y2 y3 y4 y5 y6 y7 y8 y9 y10 y11 y12
  go_wp2_with (first
    | refine wpList_load_row rfl 33 (.tmp 2) rfl w.heap.size rfl _ _ _ _ (unhide HG1s) Try.underlying33 rfl (by kernel_rfl) ?_
    | refine wpList_store_row rfl 33 (.tmp 4) (.tmp 31) rfl (w.heap.size + 1) _ rfl rfl _ _ (unhide HG2s) (by kernel_rfl) (unhide HZ) (rl_one ..) ?_)
  refine bodyPost_ret (results_ct rfl _ _ _ _ _ _ _ rfl (setRow_heap _ _ _ _ _ _ (unhide HG2s)) Try.underlying33 rfl (by kernel_rfl)) rfl ?_
  exact ⟨ra, rc, rfl, (unhide HBF).kept fun k' hk' _ => setRow_other _ _ _ _ (by have := unhide HOB k' hk'; omega), fun k' hk' => by have := unhide HOB k' hk'; omega, below_setRow (unhide HB2) (by omega) _⟩

end
end Go.Proofs.Ytbpjlkjokafdnaa
