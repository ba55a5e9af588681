/- What the functions of the document's own disk (foremanref01) do: Write. No statement of the seat is proved here. -/
import Derived.Test.YtoabpjdpdcpdlaaRef6
namespace Go.Proofs.Ytoabpjdpdcpdlaa
open Go.RowKit

section
variable (c : Int) (P : Nat → Option Addr) (N C : Nat → Nat) (bf : Bool) (n k : Int) (w : World)

set_option maxHeartbeats 2000000 in
theorem ref_write_dead (s : Int) (a : Option Addr) (m q : Nat) : Calls Try.prog 38 #[.agg (rl c P N C bf n k true), .int .i64 s, .slice a m q] w fun e w' => e = .returned (.tuple #[.agg (rl c P N C bf n k true), .int .i64 3]) ∧ Below w.heap.size w w' := by
  unfold rl
  go_enter Try.func38, Try.ntmps38
  go_wp2
  refine bodyPost_ret (results_ctr rfl _ _ _ _ _ _ _ rfl (heap_last _ _ _ (by simp)) Try.underlying43 rfl (by kernel_rfl)) rfl ?_
  exact ⟨rfl, ((Below.refl _ w).alloc (Nat.le_refl _) _).alloc (by simp) _⟩

set_option maxHeartbeats 2000000 in
theorem ref_write_out_a (s : Int) (a : Option Addr) (m q : Nat) (hs : s < 0) : Calls Try.prog 38 #[.agg (rl c P N C bf n k false), .int .i64 s, .slice a m q] w fun e w' => e = .returned (.tuple #[.agg (rl c P N C bf n k false), .int .i64 2]) ∧ Below w.heap.size w w' := by
  unfold rl
  go_enter Try.func38, Try.ntmps38
  go_wp2
  refine bodyPost_ret (results_ctr rfl _ _ _ _ _ _ _ rfl (heap_last _ _ _ (by simp)) Try.underlying43 rfl (by kernel_rfl)) rfl ?_
  exact ⟨rfl, ((Below.refl _ w).alloc (Nat.le_refl _) _).alloc (by simp) _⟩

set_option maxHeartbeats 2000000 in
theorem ref_write_out_b (s : Int) (a : Option Addr) (m q : Nat) (h1 : ¬ s < 0) (h2 : s > 1) : Calls Try.prog 38 #[.agg (rl c P N C bf n k false), .int .i64 s, .slice a m q] w fun e w' => e = .returned (.tuple #[.agg (rl c P N C bf n k false), .int .i64 2]) ∧ Below w.heap.size w w' := by
  unfold rl
  go_enter Try.func38, Try.ntmps38
  go_wp2
  refine bodyPost_ret (results_ctr rfl _ _ _ _ _ _ _ rfl (heap_last _ _ _ (by simp)) Try.underlying43 rfl (by kernel_rfl)) rfl ?_
  exact ⟨rfl, ((Below.refl _ w).alloc (Nat.le_refl _) _).alloc (by simp) _⟩

theorem ref_write_out (s : Int) (a : Option Addr) (m q : Nat) (hs : s < 0 ∨ 2 ≤ s) : Calls Try.prog 38 #[.agg (rl c P N C bf n k false), .int .i64 s, .slice a m q] w fun e w' => e = .returned (.tuple #[.agg (rl c P N C bf n k false), .int .i64 2]) ∧ Below w.heap.size w w' := by
  rcases hs with hs | hs
  · exact ref_write_out_a c P N C bf n k w s a m q hs
  · exact ref_write_out_b c P N C bf n k w s a m q (by omega) (by omega)

set_option maxHeartbeats 2000000 in
theorem ref_write_len (s : Int) (a : Option Addr) (m q : Nat) (h1 : ¬ s < 0) (h2 : ¬ s > 1) (h3 : ¬ (m : Int) = 32) : Calls Try.prog 38 #[.agg (rl c P N C bf n k false), .int .i64 s, .slice a m q] w fun e w' => e = .returned (.tuple #[.agg (rl c P N C bf n k false), .int .i64 2]) ∧ Below w.heap.size w w' := by
  unfold rl
  go_enter Try.func38, Try.ntmps38
  go_wp2
  refine bodyPost_ret (results_ctr rfl _ _ _ _ _ _ _ rfl (heap_last _ _ _ (by simp)) Try.underlying43 rfl (by kernel_rfl)) rfl ?_
  exact ⟨rfl, ((Below.refl _ w).alloc (Nat.le_refl _) _).alloc (by simp) _⟩

set_option maxHeartbeats 4000000 in
theorem ref_write_kill0 (a : Option Addr) (q : Nat) (n' : Int) (hk : Kills c P N C bf n k n' true) : Calls Try.prog 38 #[.agg (rl c P N C bf n k false), .int .i64 0, .slice a 32 q] w fun e w' => e = .returned (.tuple #[.agg (rl c P N C bf n' k true), .int .i64 3]) ∧ Below w.heap.size w w' := by
  have HK := hide hk
  clear hk
  go_enter Try.func38, Try.ntmps38
  unfold rl
  go_wp2_with fail
  generalize hww : World.alloc (World.alloc w _) _ = w1
  have hg1 : w1.heap[w.heap.size]? = some (.cells (rl c P N C bf n k false) 43 (0, 0)) := by rw [← hww, Below.heap_alloc _ _ _ (by simp)]; exact heap_alloc_new w _
  have hg2 : ∃ z, z.size = 13 ∧ w1.heap[w.heap.size + 1]? = some (.cells z 43 (0, 0)) := ⟨_, rfl, by rw [← hww]; exact heap_last _ _ _ (by simp)⟩
  have hb1 : Below w.heap.size w w1 := by rw [← hww]; exact ((Below.refl _ w).alloc (Nat.le_refl _) _).alloc (by simp) _
  clear hww
  obtain ⟨z, hz, hg2⟩ := hg2
  have HZ := hide hz
  clear hz
  refine (unhide HK w1).mono ?_
  rintro e w3 ⟨rfl, hb3⟩
  have HG1 := hide (row_later hg1 hb3)
  have HG2 := hide (row_later hg2 hb3)
  have HBB := hide (hb1.trans (hb3.mono hb1.size))
  clear hg1 hg2 hb1 hb3
  go_wp2_with (first
    | refine wpList_store_row rfl 43 (.tmp 3) (.tmp 27) rfl w.heap.size (rl c P N C bf n' k true) rfl rfl _ _ (unhide HG1) (by kernel_rfl) rfl (rl_one ..) ?_
    | refine wpList_load_row rfl 43 (.tmp 3) rfl w.heap.size rfl _ _ _ _ (setRow_heap w3 w.heap.size _ (rl c P N C bf n' k true) _ _ (unhide HG1)) Try.underlying43 rfl (by kernel_rfl) ?_
    | refine wpList_store_row rfl 43 (.tmp 6) (.tmp 30) rfl (w.heap.size + 1) (rl c P N C bf n' k true) rfl rfl _ _ ((setRow_other w3 w.heap.size (w.heap.size + 1) (rl c P N C bf n' k true) (by omega)).trans (unhide HG2)) (by kernel_rfl) (unhide HZ) (rl_one ..) ?_)
  refine bodyPost_ret (results_ctr rfl _ _ _ _ _ _ _ rfl (setRow_heap _ _ _ _ _ _ ((setRow_other w3 w.heap.size (w.heap.size + 1) (rl c P N C bf n' k true) (by omega)).trans (unhide HG2))) Try.underlying43 rfl (by kernel_rfl)) rfl ?_
  exact ⟨rfl, below_setRow (below_setRow (unhide HBB) (Nat.le_refl _) _) (by omega) _⟩

set_option maxHeartbeats 4000000 in
theorem ref_write_kill1 (a : Option Addr) (q : Nat) (n' : Int) (hk : Kills c P N C bf n k n' true) : Calls Try.prog 38 #[.agg (rl c P N C bf n k false), .int .i64 1, .slice a 32 q] w fun e w' => e = .returned (.tuple #[.agg (rl c P N C bf n' k true), .int .i64 3]) ∧ Below w.heap.size w w' := by
  have HK := hide hk
  clear hk
  go_enter Try.func38, Try.ntmps38
  unfold rl
  go_wp2_with fail
  generalize hww : World.alloc (World.alloc w _) _ = w1
  have hg1 : w1.heap[w.heap.size]? = some (.cells (rl c P N C bf n k false) 43 (0, 0)) := by rw [← hww, Below.heap_alloc _ _ _ (by simp)]; exact heap_alloc_new w _
  have hg2 : ∃ z, z.size = 13 ∧ w1.heap[w.heap.size + 1]? = some (.cells z 43 (0, 0)) := ⟨_, rfl, by rw [← hww]; exact heap_last _ _ _ (by simp)⟩
  have hb1 : Below w.heap.size w w1 := by rw [← hww]; exact ((Below.refl _ w).alloc (Nat.le_refl _) _).alloc (by simp) _
  clear hww
  obtain ⟨z, hz, hg2⟩ := hg2
  have HZ := hide hz
  clear hz
  refine (unhide HK w1).mono ?_
  rintro e w3 ⟨rfl, hb3⟩
  have HG1 := hide (row_later hg1 hb3)
  have HG2 := hide (row_later hg2 hb3)
  have HBB := hide (hb1.trans (hb3.mono hb1.size))
  clear hg1 hg2 hb1 hb3
  go_wp2_with (first
    | refine wpList_store_row rfl 43 (.tmp 3) (.tmp 27) rfl w.heap.size (rl c P N C bf n' k true) rfl rfl _ _ (unhide HG1) (by kernel_rfl) rfl (rl_one ..) ?_
    | refine wpList_load_row rfl 43 (.tmp 3) rfl w.heap.size rfl _ _ _ _ (setRow_heap w3 w.heap.size _ (rl c P N C bf n' k true) _ _ (unhide HG1)) Try.underlying43 rfl (by kernel_rfl) ?_
    | refine wpList_store_row rfl 43 (.tmp 6) (.tmp 30) rfl (w.heap.size + 1) (rl c P N C bf n' k true) rfl rfl _ _ ((setRow_other w3 w.heap.size (w.heap.size + 1) (rl c P N C bf n' k true) (by omega)).trans (unhide HG2)) (by kernel_rfl) (unhide HZ) (rl_one ..) ?_)
  refine bodyPost_ret (results_ctr rfl _ _ _ _ _ _ _ rfl (setRow_heap _ _ _ _ _ _ ((setRow_other w3 w.heap.size (w.heap.size + 1) (rl c P N C bf n' k true) (by omega)).trans (unhide HG2))) Try.underlying43 rfl (by kernel_rfl)) rfl ?_
  exact ⟨rfl, below_setRow (below_setRow (unhide HBB) (Nat.le_refl _) _) (by omega) _⟩

set_option maxHeartbeats 4000000 in
theorem ref_write_ok0 (n' : Int) (hk : Kills c P N C bf n k n' false) (a : Option Addr) (q : Nat) (bs : List UInt8) (hu : Bytes w (.slice a 32 q) bs) (hbl : bs.length = 32) :
    Calls Try.prog 38 #[.agg (rl c P N C bf n k false), .int .i64 0, .slice a 32 q] w fun e w' => ∃ ra rc, e = .returned (.tuple #[.agg (rl c (upd P 5 ra) (upd N 5 32) (upd C 5 rc) bf n' k false), .int .i64 0]) ∧ Bytes w' (.slice ra 32 rc) bs ∧ (∀ k, (Value.slice ra 32 rc).ownBlock = some k → w.heap.size ≤ k) ∧ Below w.heap.size w w' := by
  have HK := hide hk
  have HU := hide hu
  have HXL : Hid (([] : List UInt8).length + bs.length ≤ 140737488355328) := by show 0 + bs.length ≤ _; omega
  have HBL := hide hbl
  clear hk hu hbl
  go_enter Try.func38, Try.ntmps38
  unfold rl
  go_wp2_with fail
  generalize hww : World.alloc (World.alloc w _) _ = w1
  have hg1 : w1.heap[w.heap.size]? = some (.cells (rl c P N C bf n k false) 43 (0, 0)) := by rw [← hww, Below.heap_alloc _ _ _ (by simp)]; exact heap_alloc_new w _
  have hg2 : ∃ z, z.size = 13 ∧ w1.heap[w.heap.size + 1]? = some (.cells z 43 (0, 0)) := ⟨_, rfl, by rw [← hww]; exact heap_last _ _ _ (by simp)⟩
  have hb1 : Below w.heap.size w w1 := by rw [← hww]; exact ((Below.refl _ w).alloc (Nat.le_refl _) _).alloc (by simp) _
  clear hww
  obtain ⟨z, hz, hg2⟩ := hg2
  have HZ := hide hz
  clear hz
  refine (unhide HK w1).mono ?_
  rintro e w3 ⟨rfl, hb3⟩
  have HG1 := hide (row_later hg1 hb3)
  have HG2 := hide (row_later hg2 hb3)
  have HBB := hide (hb1.trans (hb3.mono hb1.size))
  clear hg1 hg2 hb1 hb3
  go_upto_region 8 with (refine wpList_store_row rfl 43 (.tmp 3) (.tmp 27) rfl w.heap.size (rl c P N C bf n' k false) rfl rfl _ _ (unhide HG1) (by kernel_rfl) rfl (rl_one ..) ?_)
  have hg2' := (setRow_other w3 w.heap.size (w.heap.size + 1) (rl c P N C bf n' k false) (by omega)).trans (unhide HG2)
  have hg1' := setRow_heap w3 w.heap.size _ (rl c P N C bf n' k false) _ _ (unhide HG1)
  have hbb := below_setRow (unhide HBB) (Nat.le_refl w.heap.size) (rl c P N C bf n' k false)
  generalize w3.setRow _ _ = w4 at *
  clear HG1 HG2 HBB
  have HG1 := hide hg1'
  have HG2 := hide hg2'
  have HBB := hide hbb
  have hgl : w.heap.size < w4.heap.size := lt_of_row hg1'
  have hgl2 : w.heap.size + 1 < w4.heap.size := lt_of_row hg2'
  clear hg1' hg2' hbb
  have HX0 : Hid (Bytes w4 (.slice none 0 0) []) := .inl ⟨rfl, rfl⟩
  have HX1 : Hid (Bytes w4 (.slice a 32 q) bs) := (unhide HU).kept fun k' _ hk' => (unhide HBB).block k' hk'
  go_wp2_with fail
  refine (join_any _ _ [] bs _ (unhide HX0) (unhide HX1) (unhide HXL)).mono ?_
  rintro e w5 ⟨r, rfl, hF⟩
  rw [List.nil_append] at hF
  obtain ⟨ra, rc, hr, _⟩ := hF.1.form
  rw [unhide HBL] at hr
  subst hr
  have hg1' : w5.heap[w.heap.size]? = _ := (hF.2.2.block w.heap.size hgl).trans (unhide HG1)
  have hg2' : w5.heap[w.heap.size + 1]? = _ := (hF.2.2.block (w.heap.size + 1) hgl2).trans (unhide HG2)
  obtain ⟨y0, y1, y2, y3, y4, y5, y6, y7, y8, y9, y10, y11, y12⟩ := row13 hg1'
  have f1 := rl_frz hg1' 6
  have hg1s : (w5.setCell ⟨w.heap.size, 6, none⟩ (.slice ra 32 rc)).heap[w.heap.size]? = some (.cells (rl c (upd P 5 ra) (upd N 5 32) (upd C 5 rc) bf n' k false) 43 (0, 0)) := rl_set hg1' 5 (by omega) ra 32 rc
  have hg2s := (Below.heap_setCell w5 ⟨w.heap.size, 6, none⟩ (.slice ra 32 rc) (w.heap.size + 1) (by show w.heap.size + 1 ≠ w.heap.size; omega)).trans hg2'
  have hbb : Below w.heap.size w w5 := (unhide HBB).trans (hF.2.2.mono (Nat.le_of_lt hgl))
  have hbb2 := hbb.setCell (p := ⟨w.heap.size, 6, none⟩) (Nat.le_refl w.heap.size) (.slice ra 32 rc)
  have hOB : ∀ k', (Value.slice ra 32 rc).ownBlock = some k' → w.heap.size + 1 < k' := fun k' hk' => by have := (hF.2.1 k' hk').1; omega
  have hBf : Bytes (w5.setCell ⟨w.heap.size, 6, none⟩ (.slice ra 32 rc)) (.slice ra 32 rc) bs := hF.1.kept fun k' hk' _ => Below.heap_setCell _ _ _ _ (by have := hOB k' hk'; show k' ≠ w.heap.size; omega)
  have HG1s := hide hg1s
  have HG2s := hide hg2s
  have HB2 := hide hbb2
  have HBF := hide hBf
  have HOB := hide hOB
  clear hg1' hg2' hg1s hg2s hbb hbb2 hBf hOB hF HG1 HG2 HBB HX0 HX1
  go_upto_region 9 with fail
  generalize World.setCell w5 _ _ = w6 at *
  clear f1 hgl hgl2 y0 y1 y2 y3 y4 y5 y6 y7 y8 y9 y10 y11 y12
  go_wp2_with (first
    | refine wpList_load_row rfl 43 (.tmp 3) rfl w.heap.size rfl _ _ _ _ (unhide HG1s) Try.underlying43 rfl (by kernel_rfl) ?_
    | refine wpList_store_row rfl 43 (.tmp 6) (.tmp 37) rfl (w.heap.size + 1) _ rfl rfl _ _ (unhide HG2s) (by kernel_rfl) (unhide HZ) (rl_one ..) ?_)
  refine bodyPost_ret (results_ctr rfl _ _ _ _ _ _ _ rfl (setRow_heap _ _ _ _ _ _ (unhide HG2s)) Try.underlying43 rfl (by kernel_rfl)) rfl ?_
  exact ⟨ra, rc, rfl, (unhide HBF).kept fun k' hk' _ => setRow_other _ _ _ _ (by have := unhide HOB k' hk'; omega), fun k' hk' => by have := unhide HOB k' hk'; omega, below_setRow (unhide HB2) (by omega) _⟩

set_option maxHeartbeats 4000000 in
theorem ref_write_ok1 (n' : Int) (hk : Kills c P N C bf n k n' false) (a : Option Addr) (q : Nat) (bs : List UInt8) (hu : Bytes w (.slice a 32 q) bs) (hbl : bs.length = 32) :
    Calls Try.prog 38 #[.agg (rl c P N C bf n k false), .int .i64 1, .slice a 32 q] w fun e w' => ∃ ra rc, e = .returned (.tuple #[.agg (rl c (upd P 7 ra) (upd N 7 32) (upd C 7 rc) bf n' k false), .int .i64 0]) ∧ Bytes w' (.slice ra 32 rc) bs ∧ (∀ k, (Value.slice ra 32 rc).ownBlock = some k → w.heap.size ≤ k) ∧ Below w.heap.size w w' := by
  have HK := hide hk
  have HU := hide hu
  have HXL : Hid (([] : List UInt8).length + bs.length ≤ 140737488355328) := by show 0 + bs.length ≤ _; omega
  have HBL := hide hbl
  clear hk hu hbl
  go_enter Try.func38, Try.ntmps38
  unfold rl
  go_wp2_with fail
  generalize hww : World.alloc (World.alloc w _) _ = w1
  have hg1 : w1.heap[w.heap.size]? = some (.cells (rl c P N C bf n k false) 43 (0, 0)) := by rw [← hww, Below.heap_alloc _ _ _ (by simp)]; exact heap_alloc_new w _
  have hg2 : ∃ z, z.size = 13 ∧ w1.heap[w.heap.size + 1]? = some (.cells z 43 (0, 0)) := ⟨_, rfl, by rw [← hww]; exact heap_last _ _ _ (by simp)⟩
  have hb1 : Below w.heap.size w w1 := by rw [← hww]; exact ((Below.refl _ w).alloc (Nat.le_refl _) _).alloc (by simp) _
  clear hww
  obtain ⟨z, hz, hg2⟩ := hg2
  have HZ := hide hz
  clear hz
  refine (unhide HK w1).mono ?_
  rintro e w3 ⟨rfl, hb3⟩
  have HG1 := hide (row_later hg1 hb3)
  have HG2 := hide (row_later hg2 hb3)
  have HBB := hide (hb1.trans (hb3.mono hb1.size))
  clear hg1 hg2 hb1 hb3
  go_upto_region 8 with (refine wpList_store_row rfl 43 (.tmp 3) (.tmp 27) rfl w.heap.size (rl c P N C bf n' k false) rfl rfl _ _ (unhide HG1) (by kernel_rfl) rfl (rl_one ..) ?_)
  have hg2' := (setRow_other w3 w.heap.size (w.heap.size + 1) (rl c P N C bf n' k false) (by omega)).trans (unhide HG2)
  have hg1' := setRow_heap w3 w.heap.size _ (rl c P N C bf n' k false) _ _ (unhide HG1)
  have hbb := below_setRow (unhide HBB) (Nat.le_refl w.heap.size) (rl c P N C bf n' k false)
  generalize w3.setRow _ _ = w4 at *
  clear HG1 HG2 HBB
  have HG1 := hide hg1'
  have HG2 := hide hg2'
  have HBB := hide hbb
  have hgl : w.heap.size < w4.heap.size := lt_of_row hg1'
  have hgl2 : w.heap.size + 1 < w4.heap.size := lt_of_row hg2'
  clear hg1' hg2' hbb
  have HX0 : Hid (Bytes w4 (.slice none 0 0) []) := .inl ⟨rfl, rfl⟩
  have HX1 : Hid (Bytes w4 (.slice a 32 q) bs) := (unhide HU).kept fun k' _ hk' => (unhide HBB).block k' hk'
  go_wp2_with fail
  refine (join_any _ _ [] bs _ (unhide HX0) (unhide HX1) (unhide HXL)).mono ?_
  rintro e w5 ⟨r, rfl, hF⟩
  rw [List.nil_append] at hF
  obtain ⟨ra, rc, hr, _⟩ := hF.1.form
  rw [unhide HBL] at hr
  subst hr
  have hg1' : w5.heap[w.heap.size]? = _ := (hF.2.2.block w.heap.size hgl).trans (unhide HG1)
  have hg2' : w5.heap[w.heap.size + 1]? = _ := (hF.2.2.block (w.heap.size + 1) hgl2).trans (unhide HG2)
  obtain ⟨y0, y1, y2, y3, y4, y5, y6, y7, y8, y9, y10, y11, y12⟩ := row13 hg1'
  have f1 := rl_frz hg1' 8
  have hg1s : (w5.setCell ⟨w.heap.size, 8, none⟩ (.slice ra 32 rc)).heap[w.heap.size]? = some (.cells (rl c (upd P 7 ra) (upd N 7 32) (upd C 7 rc) bf n' k false) 43 (0, 0)) := rl_set hg1' 7 (by omega) ra 32 rc
  have hg2s := (Below.heap_setCell w5 ⟨w.heap.size, 8, none⟩ (.slice ra 32 rc) (w.heap.size + 1) (by show w.heap.size + 1 ≠ w.heap.size; omega)).trans hg2'
  have hbb : Below w.heap.size w w5 := (unhide HBB).trans (hF.2.2.mono (Nat.le_of_lt hgl))
  have hbb2 := hbb.setCell (p := ⟨w.heap.size, 8, none⟩) (Nat.le_refl w.heap.size) (.slice ra 32 rc)
  have hOB : ∀ k', (Value.slice ra 32 rc).ownBlock = some k' → w.heap.size + 1 < k' := fun k' hk' => by have := (hF.2.1 k' hk').1; omega
  have hBf : Bytes (w5.setCell ⟨w.heap.size, 8, none⟩ (.slice ra 32 rc)) (.slice ra 32 rc) bs := hF.1.kept fun k' hk' _ => Below.heap_setCell _ _ _ _ (by have := hOB k' hk'; show k' ≠ w.heap.size; omega)
  have HG1s := hide hg1s
  have HG2s := hide hg2s
  have HB2 := hide hbb2
  have HBF := hide hBf
  have HOB := hide hOB
  clear hg1' hg2' hg1s hg2s hbb hbb2 hBf hOB hF HG1 HG2 HBB HX0 HX1
  go_upto_region 9 with fail
  generalize World.setCell w5 _ _ = w6 at *
  clear f1 hgl hgl2 y0 y1 y2 y3 y4 y5 y6 y7 y8 y9 y10 y11 y12
  go_wp2_with (first
    | refine wpList_load_row rfl 43 (.tmp 3) rfl w.heap.size rfl _ _ _ _ (unhide HG1s) Try.underlying43 rfl (by kernel_rfl) ?_
    | refine wpList_store_row rfl 43 (.tmp 6) (.tmp 37) rfl (w.heap.size + 1) _ rfl rfl _ _ (unhide HG2s) (by kernel_rfl) (unhide HZ) (rl_one ..) ?_)
  refine bodyPost_ret (results_ctr rfl _ _ _ _ _ _ _ rfl (setRow_heap _ _ _ _ _ _ (unhide HG2s)) Try.underlying43 rfl (by kernel_rfl)) rfl ?_
  exact ⟨ra, rc, rfl, (unhide HBF).kept fun k' hk' _ => setRow_other _ _ _ _ (by have := unhide HOB k' hk'; omega), fun k' hk' => by have := unhide HOB k' hk'; omega, below_setRow (unhide HB2) (by omega) _⟩

end
end Go.Proofs.Ytoabpjdpdcpdlaa
