/- What the functions of the document's own disk (foremanref01) do: Truncate. No statement of the seat is proved here. -/
import Derived.Test.YtbpjlkjokafdnaaRef6
namespace Go.Proofs.Ytbpjlkjokafdnaa
open Go.RowKit

/-- What lies behind the first m bytes of a slice. -/
theorem slice_from {w : World} {ra : Option Addr} {L rc m lf : Nat} {gb : List UInt8} (h : Bytes w (.slice ra L rc) gb) (hL : gb.length = L) (hl : L = m + lf) : ∃ sa sc, Bytes w (.slice sa lf sc) (gb.drop m) ∧ (∀ W : World, (Instr.slice 28 (.slice ra L rc) (some (.int .i64 m)) none none).run Try.prog W = .ok (.slice sa lf sc) W) ∧ ∀ W : World, (Instr.sliceAt 28 (.slice ra L rc) (some (.int .i64 m)) none none).run Try.prog W = .ok (.slice sa lf sc) W := by
  subst hL
  have hu : Try.prog.underlying 28 = some (.slice 5) := Try.underlying28
  have hel : Try.prog.elem 28 = 5 := by unfold Program.elem; rw [hu]
  have hu' : Try.prog.underlying 28 = some (.slice (Try.prog.elem 28)) := by rw [hel]; exact hu
  have hr : ∀ W : World, (Instr.slice 28 (.slice ra gb.length rc) (some (.int .i64 m)) none none).run Try.prog W = .ok (.slice (if rc = m then ra else ra.map (·.add m)) lf (rc - m)) W := fun W => by
    rw [run_slice_l W 28 ra gb.length rc hu' .i64 m (by omega) (by omega), hel]
    have hsz : (sizeOf 5).run Try.prog W = .ok 1 W := by simp [sizeOf]; rfl
    rw [hsz]
    simp only [Result.andThen, sliced, Int.toNat_natCast, Nat.mul_one]
    rw [show gb.length - m = lf by omega]
  refine ⟨_, _, ?_, hr, fun W => by rw [run_sliceAt_slice W _ _ _ _ _ hu']; exact hr W⟩
  have hdl : (gb.drop m).length = lf := by rw [List.length_drop]; omega
  rcases h with ⟨hv, hb⟩ | ⟨ad, c', hv, hl1, hl2, hb⟩
  · simp only [Value.slice.injEq] at hv
    obtain ⟨rfl, hn, rfl⟩ := hv
    refine .inl ⟨?_, by rw [hb]; simp⟩
    have : lf = 0 := by omega
    subst this
    split <;> simp
  · simp only [Value.slice.injEq] at hv
    obtain ⟨rfl, _, rfl⟩ := hv
    by_cases hc : rc = m
    · rw [if_pos hc]
      have : lf = 0 := by omega
      subst this
      have hn : gb.drop m = [] := List.drop_eq_nil_of_le (by omega)
      rw [hn]
      exact .inr ⟨ad, rc - m, rfl, Nat.zero_le _, by omega, fun j x hx => by simp at hx⟩
    · rw [if_neg hc]
      refine .inr ⟨ad.add m, rc - m, by rw [hdl]; rfl, by rw [hdl]; omega, by omega, fun j x hx => ?_⟩
      have := hb (m + j) x (by rw [List.map_drop, List.getElem?_drop] at hx; exact hx)
      rwa [Addr.add_add]

/-- The first s bytes of a slice, with no room behind them. -/
theorem slice_first {w : World} {ra : Option Addr} {L rc s : Nat} {gb : List UInt8} (h : Bytes w (.slice ra L rc) gb) (hL : gb.length = L) (hs : s ≤ L) : Bytes w (.slice ra s s) (gb.take s) ∧ (∀ W : World, (Instr.slice 28 (.slice ra L rc) none (some (.int .i64 s)) (some (.int .i64 s))).run Try.prog W = .ok (.slice ra s s) W) ∧ ∀ W : World, (Instr.sliceAt 28 (.slice ra L rc) none (some (.int .i64 s)) (some (.int .i64 s))).run Try.prog W = .ok (.slice ra s s) W := by
  subst hL
  have hu : Try.prog.underlying 28 = some (.slice 5) := Try.underlying28
  have hel : Try.prog.elem 28 = 5 := by unfold Program.elem; rw [hu]
  have hu' : Try.prog.underlying 28 = some (.slice (Try.prog.elem 28)) := by rw [hel]; exact hu
  obtain ⟨_, _, hfv, hcap⟩ := h.form
  simp only [Value.slice.injEq] at hfv
  obtain ⟨_, _, rfl⟩ := hfv
  have hr : ∀ W : World, (Instr.slice 28 (.slice ra gb.length rc) none (some (.int .i64 s)) (some (.int .i64 s))).run Try.prog W = .ok (.slice ra s s) W := fun W => by
    rw [run_slice_hm W 28 ra gb.length rc hu' .i64 .i64 s s (by omega) (by omega) (by omega), hel]
    have hsz : (sizeOf 5).run Try.prog W = .ok 1 W := by simp [sizeOf]; rfl
    rw [hsz]
    simp only [Result.andThen, sliced, Int.toNat_natCast, Nat.mul_one, Nat.sub_zero]
    cases ra with
    | none => simp
    | some ad => cases ad; simp [Addr.add]
  refine ⟨?_, hr, fun W => by rw [run_sliceAt_slice W _ _ _ _ _ hu']; exact hr W⟩
  have hlt : (gb.take s).length = s := by rw [List.length_take]; omega
  rcases h with ⟨hv, hb⟩ | ⟨ad, c', hv, hl1, hl2, hb⟩
  · simp only [Value.slice.injEq] at hv
    obtain ⟨rfl, hn, rfl⟩ := hv
    have : s = 0 := by omega
    subst this
    exact .inl ⟨rfl, by simp⟩
  · simp only [Value.slice.injEq] at hv
    obtain ⟨rfl, _, rfl⟩ := hv
    refine .inr ⟨ad, s, by rw [hlt], by omega, by omega, fun j x hx => hb j x ?_⟩
    rw [List.map_take, List.getElem?_take] at hx
    split at hx
    · exact hx
    · cases hx

section
variable (c : Int) (P : Nat → Option Addr) (N C : Nat → Nat) (bf : Bool) (n k : Int) (w : World)

set_option maxHeartbeats 2000000 in
theorem ref_truncate_dead (s m : Int) : Calls Try.prog 32 #[.agg (rl c P N C bf n k true), .int .i64 s, .int .i64 m] w fun e w' => e = .returned (.tuple #[.agg (rl c P N C bf n k true), .int .i64 3]) ∧ Below w.heap.size w w' := by
  unfold rl
  go_enter Try.func32, Try.ntmps32
  go_wp2
  refine bodyPost_ret (results_ct rfl _ _ _ _ _ _ _ rfl (heap_last _ _ _ (by simp)) Try.underlying33 rfl (by kernel_rfl)) rfl ?_
  exact ⟨rfl, ((Below.refl _ w).alloc (Nat.le_refl _) _).alloc (by simp) _⟩

set_option maxHeartbeats 2000000 in
theorem ref_truncate_out_a (s m : Int) (hs : s < 0) : Calls Try.prog 32 #[.agg (rl c P N C bf n k false), .int .i64 s, .int .i64 m] w fun e w' => e = .returned (.tuple #[.agg (rl c P N C bf n k false), .int .i64 2]) ∧ Below w.heap.size w w' := by
  unfold rl
  go_enter Try.func32, Try.ntmps32
  go_wp2
  refine bodyPost_ret (results_ct rfl _ _ _ _ _ _ _ rfl (heap_last _ _ _ (by simp)) Try.underlying33 rfl (by kernel_rfl)) rfl ?_
  exact ⟨rfl, ((Below.refl _ w).alloc (Nat.le_refl _) _).alloc (by simp) _⟩

set_option maxHeartbeats 2000000 in
theorem ref_truncate_out_b (s m : Int) (h1 : ¬ s < 0) (h2 : s > 1) : Calls Try.prog 32 #[.agg (rl c P N C bf n k false), .int .i64 s, .int .i64 m] w fun e w' => e = .returned (.tuple #[.agg (rl c P N C bf n k false), .int .i64 2]) ∧ Below w.heap.size w w' := by
  unfold rl
  go_enter Try.func32, Try.ntmps32
  go_wp2
  refine bodyPost_ret (results_ct rfl _ _ _ _ _ _ _ rfl (heap_last _ _ _ (by simp)) Try.underlying33 rfl (by kernel_rfl)) rfl ?_
  exact ⟨rfl, ((Below.refl _ w).alloc (Nat.le_refl _) _).alloc (by simp) _⟩

set_option maxHeartbeats 2000000 in
theorem ref_truncate_out_c (s m : Int) (h1 : ¬ s < 0) (h2 : ¬ s > 1) (h3 : m < 0) : Calls Try.prog 32 #[.agg (rl c P N C bf n k false), .int .i64 s, .int .i64 m] w fun e w' => e = .returned (.tuple #[.agg (rl c P N C bf n k false), .int .i64 2]) ∧ Below w.heap.size w w' := by
  unfold rl
  go_enter Try.func32, Try.ntmps32
  go_wp2
  refine bodyPost_ret (results_ct rfl _ _ _ _ _ _ _ rfl (heap_last _ _ _ (by simp)) Try.underlying33 rfl (by kernel_rfl)) rfl ?_
  exact ⟨rfl, ((Below.refl _ w).alloc (Nat.le_refl _) _).alloc (by simp) _⟩

set_option maxHeartbeats 4000000 in
theorem ref_truncate_long0 (x : Nat → List UInt8) (hb : ∀ j, j < 4 → Bytes w (.slice (P j) (N j) (C j)) (x j)) (hl : (x 0).length + (x 1).length ≤ 1048576) (m : Int) (hm : ((x 0).length + (x 1).length : Nat) < m) :
    Calls Try.prog 32 #[.agg (rl c P N C bf n k false), .int .i64 0, .int .i64 m] w fun e w' => e = .returned (.tuple #[.agg (rl c P N C bf n k false), .int .i64 2]) ∧ Below w.heap.size w w' := by
  have HB := hide hb
  have HXL : Hid ((x 0).length + (x 1).length ≤ 140737488355328) := by show _ ≤ _; omega
  obtain ⟨ln, hln⟩ : ∃ ln, ln = (x 0 ++ x 1).length := ⟨_, rfl⟩
  have hln2 : ln = (x 0).length + (x 1).length := by rw [hln, List.length_append]
  have HLN := hide hln
  have hgt : m > (ln : Int) := by omega
  have hm0 : ¬ m < 0 := by omega
  clear hb hl hm hln hln2
  go_enter Try.func32, Try.ntmps32
  unfold rl
  go_wp2_with fail
  generalize hww : World.alloc (World.alloc w _) _ = w1
  have hg1 : w1.heap[w.heap.size]? = some (.cells (rl c P N C bf n k false) 33 (0, 0)) := by rw [← hww, Below.heap_alloc _ _ _ (by simp)]; exact heap_alloc_new w _
  have hg2 : ∃ z, z.size = 13 ∧ w1.heap[w.heap.size + 1]? = some (.cells z 33 (0, 0)) := ⟨_, rfl, by rw [← hww]; exact heap_last _ _ _ (by simp)⟩
  have hb1 : Below w.heap.size w w1 := by rw [← hww]; exact ((Below.refl _ w).alloc (Nat.le_refl _) _).alloc (by simp) _
  clear hww
  refine (all_at0 c P N C bf n k false w1 (x 0) (x 1) ((unhide HB 0 (by omega)).kept fun k' _ hk' => hb1.block k' hk') ((unhide HB 1 (by omega)).kept fun k' _ hk' => hb1.block k' hk') (unhide HXL)).mono ?_
  rintro e w2 ⟨r, rfl, hF⟩
  obtain ⟨r1, rc1, hr, _⟩ := hF.1.form
  rw [← unhide HLN] at hr
  subst hr
  have hb2 := hF.2.2
  obtain ⟨z, hz, hg2⟩ := hg2
  have HZ := hide hz
  have hg1' := row_later hg1 hb2
  have hg2' := row_later hg2 hb2
  have hbb := hb1.trans (hb2.mono hb1.size)
  obtain ⟨y0, y1, y2, y3, y4, y5, y6, y7, y8, y9, y10, y11, y12⟩ := row13 hg1'
  have HG1 := hide hg1'
  have HG2 := hide hg2'
  have HBB := hide hbb
  clear hg1 hg2 hb1 hb2 hg1' hg2' hz hbb hF
  go_wp2_with (refine wpList_store_row rfl 33 (.tmp 6) (.tmp 32) rfl (w.heap.size + 1) (rl c P N C bf n k false) rfl rfl _ _ (unhide HG2) (by kernel_rfl) (unhide HZ) (rl_one ..) ?_)
  refine bodyPost_ret (results_ct rfl _ _ _ _ _ _ _ rfl (setRow_heap _ _ _ _ _ _ (unhide HG2)) Try.underlying33 rfl (by kernel_rfl)) rfl ?_
  exact ⟨rfl, below_setRow (unhide HBB) (by omega) _⟩

set_option maxHeartbeats 4000000 in
theorem ref_truncate_kill0 (n' : Int) (hk : Kills c P N C bf n k n' true) (x : Nat → List UInt8) (hb : ∀ j, j < 4 → Bytes w (.slice (P j) (N j) (C j)) (x j)) (hl : (x 0).length + (x 1).length ≤ 1048576) (m : Nat) (hm : m ≤ (x 0).length + (x 1).length) :
    Calls Try.prog 32 #[.agg (rl c P N C bf n k false), .int .i64 0, .int .i64 m] w fun e w' => e = .returned (.tuple #[.agg (rl c P N C bf n' k true), .int .i64 3]) ∧ Below w.heap.size w w' := by
  have HK := hide hk
  have HB := hide hb
  have HXL : Hid ((x 0).length + (x 1).length ≤ 140737488355328) := by show _ ≤ _; omega
  obtain ⟨ln, hln⟩ : ∃ ln, ln = (x 0 ++ x 1).length := ⟨_, rfl⟩
  have hln2 : ln = (x 0).length + (x 1).length := by rw [hln, List.length_append]
  have HLN := hide hln
  have hgt : ¬ (m : Int) > (ln : Int) := by omega
  have hm0 : ¬ (m : Int) < 0 := by omega
  clear hb hl hm hln hln2 hk
  go_enter Try.func32, Try.ntmps32
  unfold rl
  go_wp2_with fail
  generalize hww : World.alloc (World.alloc w _) _ = w1
  have hg1 : w1.heap[w.heap.size]? = some (.cells (rl c P N C bf n k false) 33 (0, 0)) := by rw [← hww, Below.heap_alloc _ _ _ (by simp)]; exact heap_alloc_new w _
  have hg2 : ∃ z, z.size = 13 ∧ w1.heap[w.heap.size + 1]? = some (.cells z 33 (0, 0)) := ⟨_, rfl, by rw [← hww]; exact heap_last _ _ _ (by simp)⟩
  have hb1 : Below w.heap.size w w1 := by rw [← hww]; exact ((Below.refl _ w).alloc (Nat.le_refl _) _).alloc (by simp) _
  clear hww
  refine (all_at0 c P N C bf n k false w1 (x 0) (x 1) ((unhide HB 0 (by omega)).kept fun k' _ hk' => hb1.block k' hk') ((unhide HB 1 (by omega)).kept fun k' _ hk' => hb1.block k' hk') (unhide HXL)).mono ?_
  rintro e w2 ⟨r, rfl, hF⟩
  obtain ⟨r1, rc1, hr, _⟩ := hF.1.form
  rw [← unhide HLN] at hr
  subst hr
  have hb2 := hF.2.2
  obtain ⟨z, hz, hg2⟩ := hg2
  have HZ := hide hz
  have hg1' := row_later hg1 hb2
  have hg2' := row_later hg2 hb2
  have hbb := hb1.trans (hb2.mono hb1.size)
  obtain ⟨y0, y1, y2, y3, y4, y5, y6, y7, y8, y9, y10, y11, y12⟩ := row13 hg1'
  have HG1 := hide hg1'
  have HG2 := hide hg2'
  have HBB := hide hbb
  clear hg1 hg2 hb1 hb2 hg1' hg2' hz hbb hF
  go_wp2_with fail
  refine (unhide HK _).mono ?_
  rintro e w3 ⟨rfl, hb3⟩
  clear y0 y1 y2 y3 y4 y5 y6 y7 y8 y9 y10 y11 y12
  have hg1' := row_later (unhide HG1) hb3
  have hg2' := row_later (unhide HG2) hb3
  have hbb := (unhide HBB).trans (hb3.mono (unhide HBB).size)
  clear HG1 HG2 HBB
  have HG1 := hide hg1'
  have HG2 := hide hg2'
  have HBB := hide hbb
  clear hg1' hg2' hbb hb3
  go_wp2_with (first
    | refine wpList_store_row rfl 33 (.tmp 3) (.tmp 36) rfl w.heap.size (rl c P N C bf n' k true) rfl rfl _ _ (unhide HG1) (by kernel_rfl) rfl (rl_one ..) ?_
    | refine wpList_load_row rfl 33 (.tmp 3) rfl w.heap.size rfl _ _ _ _ (setRow_heap w3 w.heap.size _ (rl c P N C bf n' k true) _ _ (unhide HG1)) Try.underlying33 rfl (by kernel_rfl) ?_
    | refine wpList_store_row rfl 33 (.tmp 6) (.tmp 39) rfl (w.heap.size + 1) (rl c P N C bf n' k true) rfl rfl _ _ ((setRow_other w3 w.heap.size (w.heap.size + 1) (rl c P N C bf n' k true) (by omega)).trans (unhide HG2)) (by kernel_rfl) (unhide HZ) (rl_one ..) ?_)
  refine bodyPost_ret (results_ct rfl _ _ _ _ _ _ _ rfl (setRow_heap _ _ _ _ _ _ ((setRow_other w3 w.heap.size (w.heap.size + 1) (rl c P N C bf n' k true) (by omega)).trans (unhide HG2))) Try.underlying33 rfl (by kernel_rfl)) rfl ?_
  exact ⟨rfl, below_setRow (below_setRow (unhide HBB) (Nat.le_refl _) _) (by omega) _⟩

set_option maxHeartbeats 8000000 in
theorem ref_truncate_ok0A (n' : Int) (hk : Kills c P N C bf n k n' false) (x : Nat → List UInt8) (hb : ∀ j, j < 4 → Bytes w (.slice (P j) (N j) (C j)) (x j)) (hl : (x 0).length + (x 1).length ≤ 1048576) (m : Nat) (hm : m ≤ (x 0).length + (x 1).length) (hlt : (m : Int) < (N 0 : Int)) :
    Calls Try.prog 32 #[.agg (rl c P N C bf n k false), .int .i64 0, .int .i64 m] w fun e w' => ∃ ra rb rd, e = .returned (.tuple #[.agg (rl c (upd (upd P 0 ra) 1 rb) (upd (upd N 0 m) 1 0) (upd (upd C 0 m) 1 rd) bf n' k false), .int .i64 0]) ∧ Bytes w' (.slice ra m m) (((x 0 ++ x 1).take m).take m) ∧ Bytes w' (.slice rb 0 rd) (((x 0 ++ x 1).take m).drop m) ∧ (∀ k, (Value.slice ra m m).ownBlock = some k → w.heap.size ≤ k) ∧ (∀ k, (Value.slice rb 0 rd).ownBlock = some k → w.heap.size ≤ k) ∧ Below w.heap.size w w' := by
  have HK := hide hk
  have HB := hide hb
  have HXL : Hid ((x 0).length + (x 1).length ≤ 140737488355328) := by show _ ≤ _; omega
  obtain ⟨ln, hln⟩ : ∃ ln, ln = (x 0 ++ x 1).length := ⟨_, rfl⟩
  have hln2 : ln = (x 0).length + (x 1).length := by rw [hln, List.length_append]
  have HLN := hide hln
  have hgt : ¬ (m : Int) > (ln : Int) := by omega
  have hm0 : ¬ (m : Int) < 0 := by omega
  have hm1 : (0 : Int) ≤ (m : Int) := by omega
  have HML : Hid (m ≤ ln) := by show m ≤ ln; omega
  have HXT : Hid (((x 0 ++ x 1).take m).length = m) := by show _ = m; rw [List.length_take, ← hln]; omega
  have HLF : Hid (m = m + 0) := by show m = _; omega
  have HJL : Hid (([] : List UInt8).length + (((x 0 ++ x 1).take m).drop m).length ≤ 140737488355328) := by show 0 + _ ≤ _; rw [List.length_drop, List.length_take, ← hln]; omega
  clear hb hl hm hln hln2 hk
  go_enter Try.func32, Try.ntmps32
  unfold rl
  go_wp2_with fail
  generalize hww : World.alloc (World.alloc w _) _ = w1
  have hg1 : w1.heap[w.heap.size]? = some (.cells (rl c P N C bf n k false) 33 (0, 0)) := by rw [← hww, Below.heap_alloc _ _ _ (by simp)]; exact heap_alloc_new w _
  have hg2 : ∃ z, z.size = 13 ∧ w1.heap[w.heap.size + 1]? = some (.cells z 33 (0, 0)) := ⟨_, rfl, by rw [← hww]; exact heap_last _ _ _ (by simp)⟩
  have hb1 : Below w.heap.size w w1 := by rw [← hww]; exact ((Below.refl _ w).alloc (Nat.le_refl _) _).alloc (by simp) _
  clear hww
  refine (all_at0 c P N C bf n k false w1 (x 0) (x 1) ((unhide HB 0 (by omega)).kept fun k' _ hk' => hb1.block k' hk') ((unhide HB 1 (by omega)).kept fun k' _ hk' => hb1.block k' hk') (unhide HXL)).mono ?_
  rintro e w2 ⟨r, rfl, hF⟩
  obtain ⟨r1, rc1, hr, _⟩ := hF.1.form
  rw [← unhide HLN] at hr
  subst hr
  have hb2 := hF.2.2
  obtain ⟨z, hz, hg2⟩ := hg2
  have HZ := hide hz
  have hg1' := row_later hg1 hb2
  have hg2' := row_later hg2 hb2
  have hbb := hb1.trans (hb2.mono hb1.size)
  obtain ⟨y0, y1, y2, y3, y4, y5, y6, y7, y8, y9, y10, y11, y12⟩ := row13 hg1'
  have HG1 := hide hg1'
  have HG2 := hide hg2'
  have HBB := hide hbb
  clear hg1 hg2 hb1 hb2 hg1' hg2' hz hbb hF
  go_wp2_with fail
  refine (unhide HK _).mono ?_
  rintro e w3 ⟨rfl, hb3⟩
  clear y0 y1 y2 y3 y4 y5 y6 y7 y8 y9 y10 y11 y12
  have hg1' := row_later (unhide HG1) hb3
  have hg2' := row_later (unhide HG2) hb3
  have hbb := (unhide HBB).trans (hb3.mono (unhide HBB).size)
  clear HG1 HG2 HBB
  have HG1 := hide hg1'
  have HG2 := hide hg2'
  have HBB := hide hbb
  clear hg1' hg2' hbb hb3
  go_upto_region 8 with (refine wpList_store_row rfl 33 (.tmp 3) (.tmp 36) rfl w.heap.size (rl c P N C bf n' k false) rfl rfl _ _ (unhide HG1) (by kernel_rfl) rfl (rl_one ..) ?_)
  have hg2' := (setRow_other w3 w.heap.size (w.heap.size + 1) (rl c P N C bf n' k false) (by omega)).trans (unhide HG2)
  have hg1' := setRow_heap w3 w.heap.size _ (rl c P N C bf n' k false) _ _ (unhide HG1)
  have hbb := below_setRow (unhide HBB) (Nat.le_refl w.heap.size) (rl c P N C bf n' k false)
  generalize w3.setRow _ _ = w4 at *
  clear HG1 HG2 HBB
  have HG1 := hide hg1'
  have HG2 := hide hg2'
  have HBB := hide hbb
  have hgl : w.heap.size < w4.heap.size := lt_of_row hg1'
  have hgl2 : w.heap.size + 1 < w4.heap.size := lt_of_row hg2'
  obtain ⟨y0, y1, y2, y3, y4, y5, y6, y7, y8, y9, y10, y11, y12⟩ := row13 hg1'
  clear hg1' hg2' hbb
  have HX0 : Hid (Bytes w4 (.slice (P 0) (N 0) (C 0)) (x 0)) := (unhide HB 0 (by omega)).kept fun k' _ hk' => (unhide HBB).block k' hk'
  have HX1 : Hid (Bytes w4 (.slice (P 1) (N 1) (C 1)) (x 1)) := (unhide HB 1 (by omega)).kept fun k' _ hk' => (unhide HBB).block k' hk'
  go_wp2_with fail
  refine (all_at0 c P N C bf n' k false _ (x 0) (x 1) (unhide HX0) (unhide HX1) (unhide HXL)).mono ?_
  rintro e w5 ⟨r, rfl, hF⟩
  obtain ⟨ra, rc, hr, hlc⟩ := hF.1.form
  rw [← unhide HLN] at hr hlc
  subst hr
  clear y0 y1 y2 y3 y4 y5 y6 y7 y8 y9 y10 y11 y12
  have hg1' : w5.heap[w.heap.size]? = _ := (hF.2.2.block w.heap.size hgl).trans (unhide HG1)
  have hg2' : w5.heap[w.heap.size + 1]? = _ := (hF.2.2.block (w.heap.size + 1) hgl2).trans (unhide HG2)
  have hgl5 : w.heap.size < w5.heap.size := lt_of_row hg1'
  have hgl6 : w.heap.size + 1 < w5.heap.size := lt_of_row hg2'
  obtain ⟨y0, y1, y2, y3, y4, y5, y6, y7, y8, y9, y10, y11, y12⟩ := row13 hg1'
  have f1 := rl_frz hg1' 1
  have f2 := rl_frz hg1' 2
  have hbb : Below w.heap.size w w5 := (unhide HBB).trans (hF.2.2.mono (Nat.le_of_lt hgl))
  have hOA : ∀ k', (Value.slice ra m m).ownBlock = some k' → w.heap.size + 1 < k' ∧ k' < w5.heap.size := fun k' hk' => by have := hF.2.1 k' (by cases ra <;> exact hk'); omega
  have hmc : (m : Int) ≤ (rc : Int) := by have := unhide HML; omega
  have hBm : Bytes w5 (.slice ra m rc) ((x 0 ++ x 1).take m) := hF.1.take (unhide HML) (unhide HLN).symm
  obtain ⟨hB1, q1, q2⟩ := slice_first (s := m) hBm (unhide HXT) (by have := unhide HLF; omega)
  obtain ⟨sa, sc, hB2, q3, q4⟩ := slice_from (m := m) (lf := 0) hBm (unhide HXT) (unhide HLF)
  have HB1 := hide hB1
  have HB2 := hide hB2
  have HOA := hide hOA
  clear HG1 HG2 HBB
  have HG1 := hide hg1'
  have HG2 := hide hg2'
  have HBB := hide hbb
  clear hg1' hg2' hbb hBm hB1 hB2 hOA hlc hF hgl hgl2 HX0 HX1
  go_upto_region 12 with fail
  go_region_with (first
    | (go_at_call 59; refine (join_any _ _ [] (((x 0 ++ x 1).take m).drop m) _ (by exact .inl ⟨rfl, rfl⟩) (by exact (unhide HB2).kept (fun _ _ _ => rfl)) (unhide HJL)).mono ?_; rintro e w6 ⟨r, rfl, hF⟩; rw [List.nil_append] at hF; obtain ⟨rb, rd, hr, _⟩ := hF.1.form; rw [show (((x 0 ++ x 1).take m).drop m).length = 0 by rw [List.length_drop, unhide HXT]; have := unhide HLF; omega] at hr; subst hr; have yl := (hF.2.2.cell (p := ⟨w.heap.size, 1, none⟩) hgl5).trans y1; have yl2 := (hF.2.2.cell (p := ⟨w.heap.size, 2, none⟩) hgl5).trans y2; have fz1 := (World.frozen?_of_block (a := ⟨w.heap.size, 1, none⟩) (hF.2.2.block w.heap.size hgl5)).trans f1; have fz2 := (World.frozen?_of_block (a := ⟨w.heap.size, 2, none⟩) (hF.2.2.block w.heap.size hgl5)).trans f2; have HF := hide hF; clear hF))
  have hg1' : w6.heap[w.heap.size]? = _ := (unhide HF).2.2.block w.heap.size hgl5 |>.trans (unhide HG1)
  have hg2' : w6.heap[w.heap.size + 1]? = _ := (unhide HF).2.2.block (w.heap.size + 1) hgl6 |>.trans (unhide HG2)
  have hsz : w5.drew.heap.size = w5.heap.size := rfl
  have hg1s : ((w6.setCell ⟨w.heap.size, 1, none⟩ (.slice ra m m)).setCell ⟨w.heap.size, 2, none⟩ (.slice rb 0 rd)).heap[w.heap.size]? = some (.cells (rl c (upd (upd P 0 ra) 1 rb) (upd (upd N 0 m) 1 0) (upd (upd C 0 m) 1 rd) bf n' k false) 33 (0, 0)) := rl_set (rl_set hg1' 0 (by omega) ra m m) 1 (by omega) rb 0 rd
  have hg2s := (Below.heap_setCell (w6.setCell ⟨w.heap.size, 1, none⟩ (.slice ra m m)) ⟨w.heap.size, 2, none⟩ (.slice rb 0 rd) (w.heap.size + 1) (by show w.heap.size + 1 ≠ w.heap.size; omega)).trans ((Below.heap_setCell w6 ⟨w.heap.size, 1, none⟩ (.slice ra m m) (w.heap.size + 1) (by show w.heap.size + 1 ≠ w.heap.size; omega)).trans hg2')
  have hbb : Below w.heap.size w w6 := (unhide HBB).drew.trans ((unhide HF).2.2.mono (Nat.le_of_lt hgl5))
  have hbb2 := (hbb.setCell (p := ⟨w.heap.size, 1, none⟩) (Nat.le_refl w.heap.size) (.slice ra m m)).setCell (p := ⟨w.heap.size, 2, none⟩) (Nat.le_refl w.heap.size) (.slice rb 0 rd)
  have hOB : ∀ k', (Value.slice rb 0 rd).ownBlock = some k' → w.heap.size + 1 < k' := fun k' hk' => by have := ((unhide HF).2.1 k' hk').1; omega
  have hOA : ∀ k', (Value.slice ra m m).ownBlock = some k' → w.heap.size + 1 < k' ∧ k' < w5.drew.heap.size := unhide HOA
  have hBa : Bytes ((w6.setCell ⟨w.heap.size, 1, none⟩ (.slice ra m m)).setCell ⟨w.heap.size, 2, none⟩ (.slice rb 0 rd)) (.slice ra m m) (((x 0 ++ x 1).take m).take m) := (((unhide HB1).kept (fun k' hk' _ => (unhide HF).2.2.block k' (hOA k' hk').2)).kept fun k' hk' _ => Below.heap_setCell _ _ _ _ (by have := (hOA k' hk').1; show k' ≠ w.heap.size; omega)).kept fun k' hk' _ => Below.heap_setCell _ _ _ _ (by have := (hOA k' hk').1; show k' ≠ w.heap.size; omega)
  have hBb : Bytes ((w6.setCell ⟨w.heap.size, 1, none⟩ (.slice ra m m)).setCell ⟨w.heap.size, 2, none⟩ (.slice rb 0 rd)) (.slice rb 0 rd) (((x 0 ++ x 1).take m).drop m) := ((unhide HF).1.kept fun k' hk' _ => Below.heap_setCell _ _ _ _ (by have := hOB k' hk'; show k' ≠ w.heap.size; omega)).kept fun k' hk' _ => Below.heap_setCell _ _ _ _ (by have := hOB k' hk'; show k' ≠ w.heap.size; omega)
  generalize World.setCell (World.setCell w6 _ _) _ _ = w7 at *
  have HG1s := hide hg1s
  have HG2s := hide hg2s
  have HB3 := hide hbb2
  have HBa := hide hBa
  have HBb := hide hBb
  have HOB := hide hOB
  clear hg1' hg2' hsz hg1s hg2s hbb hbb2 hBa hBb hOA hOB yl yl2 fz1 fz2 f1 f2 hgl5 hgl6 HF HG1 HG2 HBB HB1 HB2 q1 q2 q3 q4 y0 y1 y2 y3 y4 y5 y6 y7 y8 y9 y10 y11 y12
  go_wp2_with (first
    | refine wpList_load_row rfl 33 (.tmp 3) rfl w.heap.size rfl _ _ _ _ (unhide HG1s) Try.underlying33 rfl (by kernel_rfl) ?_
    | refine wpList_store_row rfl 33 (.tmp 6) (.tmp 67) rfl (w.heap.size + 1) _ rfl rfl _ _ (unhide HG2s) (by kernel_rfl) (unhide HZ) (rl_one ..) ?_)
  refine bodyPost_ret (results_ct rfl _ _ _ _ _ _ _ rfl (setRow_heap _ _ _ _ _ _ (unhide HG2s)) Try.underlying33 rfl (by kernel_rfl)) rfl ?_
  exact ⟨ra, rb, rd, rfl, (unhide HBa).kept fun k' hk' _ => setRow_other _ _ _ _ (by have := (unhide HOA k' hk').1; omega), (unhide HBb).kept fun k' hk' _ => setRow_other _ _ _ _ (by have := unhide HOB k' hk'; omega), fun k' hk' => by have := (unhide HOA k' hk').1; omega, fun k' hk' => by have := unhide HOB k' hk'; omega, below_setRow (unhide HB3) (by omega) _⟩

set_option maxHeartbeats 8000000 in
theorem ref_truncate_ok0B (n' : Int) (hk : Kills c P N C bf n k n' false) (x : Nat → List UInt8) (hb : ∀ j, j < 4 → Bytes w (.slice (P j) (N j) (C j)) (x j)) (hl : (x 0).length + (x 1).length ≤ 1048576) (m : Nat) (hm : m ≤ (x 0).length + (x 1).length) (hlt : ¬ (m : Int) < (N 0 : Int)) (lf : Nat) (hlf : m = N 0 + lf) :
    Calls Try.prog 32 #[.agg (rl c P N C bf n k false), .int .i64 0, .int .i64 m] w fun e w' => ∃ ra rb rd, e = .returned (.tuple #[.agg (rl c (upd (upd P 0 ra) 1 rb) (upd (upd N 0 (N 0)) 1 lf) (upd (upd C 0 (N 0)) 1 rd) bf n' k false), .int .i64 0]) ∧ Bytes w' (.slice ra (N 0) (N 0)) (((x 0 ++ x 1).take m).take (N 0)) ∧ Bytes w' (.slice rb lf rd) (((x 0 ++ x 1).take m).drop (N 0)) ∧ (∀ k, (Value.slice ra (N 0) (N 0)).ownBlock = some k → w.heap.size ≤ k) ∧ (∀ k, (Value.slice rb lf rd).ownBlock = some k → w.heap.size ≤ k) ∧ Below w.heap.size w w' := by
  have HK := hide hk
  have HB := hide hb
  have HXL : Hid ((x 0).length + (x 1).length ≤ 140737488355328) := by show _ ≤ _; omega
  obtain ⟨ln, hln⟩ : ∃ ln, ln = (x 0 ++ x 1).length := ⟨_, rfl⟩
  have hln2 : ln = (x 0).length + (x 1).length := by rw [hln, List.length_append]
  have HLN := hide hln
  have hgt : ¬ (m : Int) > (ln : Int) := by omega
  have hm0 : ¬ (m : Int) < 0 := by omega
  have hm1 : (0 : Int) ≤ (m : Int) := by omega
  have HML : Hid (m ≤ ln) := by show m ≤ ln; omega
  have HXT : Hid (((x 0 ++ x 1).take m).length = m) := by show _ = m; rw [List.length_take, ← hln]; omega
  have HLF : Hid (m = (N 0) + lf) := by show m = _; omega
  have HJL : Hid (([] : List UInt8).length + (((x 0 ++ x 1).take m).drop (N 0)).length ≤ 140737488355328) := by show 0 + _ ≤ _; rw [List.length_drop, List.length_take, ← hln]; omega
  clear hb hl hm hln hln2 hk hlf
  go_enter Try.func32, Try.ntmps32
  unfold rl
  go_wp2_with fail
  generalize hww : World.alloc (World.alloc w _) _ = w1
  have hg1 : w1.heap[w.heap.size]? = some (.cells (rl c P N C bf n k false) 33 (0, 0)) := by rw [← hww, Below.heap_alloc _ _ _ (by simp)]; exact heap_alloc_new w _
  have hg2 : ∃ z, z.size = 13 ∧ w1.heap[w.heap.size + 1]? = some (.cells z 33 (0, 0)) := ⟨_, rfl, by rw [← hww]; exact heap_last _ _ _ (by simp)⟩
  have hb1 : Below w.heap.size w w1 := by rw [← hww]; exact ((Below.refl _ w).alloc (Nat.le_refl _) _).alloc (by simp) _
  clear hww
  refine (all_at0 c P N C bf n k false w1 (x 0) (x 1) ((unhide HB 0 (by omega)).kept fun k' _ hk' => hb1.block k' hk') ((unhide HB 1 (by omega)).kept fun k' _ hk' => hb1.block k' hk') (unhide HXL)).mono ?_
  rintro e w2 ⟨r, rfl, hF⟩
  obtain ⟨r1, rc1, hr, _⟩ := hF.1.form
  rw [← unhide HLN] at hr
  subst hr
  have hb2 := hF.2.2
  obtain ⟨z, hz, hg2⟩ := hg2
  have HZ := hide hz
  have hg1' := row_later hg1 hb2
  have hg2' := row_later hg2 hb2
  have hbb := hb1.trans (hb2.mono hb1.size)
  obtain ⟨y0, y1, y2, y3, y4, y5, y6, y7, y8, y9, y10, y11, y12⟩ := row13 hg1'
  have HG1 := hide hg1'
  have HG2 := hide hg2'
  have HBB := hide hbb
  clear hg1 hg2 hb1 hb2 hg1' hg2' hz hbb hF
  go_wp2_with fail
  refine (unhide HK _).mono ?_
  rintro e w3 ⟨rfl, hb3⟩
  clear y0 y1 y2 y3 y4 y5 y6 y7 y8 y9 y10 y11 y12
  have hg1' := row_later (unhide HG1) hb3
  have hg2' := row_later (unhide HG2) hb3
  have hbb := (unhide HBB).trans (hb3.mono (unhide HBB).size)
  clear HG1 HG2 HBB
  have HG1 := hide hg1'
  have HG2 := hide hg2'
  have HBB := hide hbb
  clear hg1' hg2' hbb hb3
  go_upto_region 8 with (refine wpList_store_row rfl 33 (.tmp 3) (.tmp 36) rfl w.heap.size (rl c P N C bf n' k false) rfl rfl _ _ (unhide HG1) (by kernel_rfl) rfl (rl_one ..) ?_)
  have hg2' := (setRow_other w3 w.heap.size (w.heap.size + 1) (rl c P N C bf n' k false) (by omega)).trans (unhide HG2)
  have hg1' := setRow_heap w3 w.heap.size _ (rl c P N C bf n' k false) _ _ (unhide HG1)
  have hbb := below_setRow (unhide HBB) (Nat.le_refl w.heap.size) (rl c P N C bf n' k false)
  generalize w3.setRow _ _ = w4 at *
  clear HG1 HG2 HBB
  have HG1 := hide hg1'
  have HG2 := hide hg2'
  have HBB := hide hbb
  have hgl : w.heap.size < w4.heap.size := lt_of_row hg1'
  have hgl2 : w.heap.size + 1 < w4.heap.size := lt_of_row hg2'
  obtain ⟨y0, y1, y2, y3, y4, y5, y6, y7, y8, y9, y10, y11, y12⟩ := row13 hg1'
  clear hg1' hg2' hbb
  have HX0 : Hid (Bytes w4 (.slice (P 0) (N 0) (C 0)) (x 0)) := (unhide HB 0 (by omega)).kept fun k' _ hk' => (unhide HBB).block k' hk'
  have HX1 : Hid (Bytes w4 (.slice (P 1) (N 1) (C 1)) (x 1)) := (unhide HB 1 (by omega)).kept fun k' _ hk' => (unhide HBB).block k' hk'
  go_wp2_with fail
  refine (all_at0 c P N C bf n' k false _ (x 0) (x 1) (unhide HX0) (unhide HX1) (unhide HXL)).mono ?_
  rintro e w5 ⟨r, rfl, hF⟩
  obtain ⟨ra, rc, hr, hlc⟩ := hF.1.form
  rw [← unhide HLN] at hr hlc
  subst hr
  clear y0 y1 y2 y3 y4 y5 y6 y7 y8 y9 y10 y11 y12
  have hg1' : w5.heap[w.heap.size]? = _ := (hF.2.2.block w.heap.size hgl).trans (unhide HG1)
  have hg2' : w5.heap[w.heap.size + 1]? = _ := (hF.2.2.block (w.heap.size + 1) hgl2).trans (unhide HG2)
  have hgl5 : w.heap.size < w5.heap.size := lt_of_row hg1'
  have hgl6 : w.heap.size + 1 < w5.heap.size := lt_of_row hg2'
  obtain ⟨y0, y1, y2, y3, y4, y5, y6, y7, y8, y9, y10, y11, y12⟩ := row13 hg1'
  have f1 := rl_frz hg1' 1
  have f2 := rl_frz hg1' 2
  have hbb : Below w.heap.size w w5 := (unhide HBB).trans (hF.2.2.mono (Nat.le_of_lt hgl))
  have hOA : ∀ k', (Value.slice ra (N 0) (N 0)).ownBlock = some k' → w.heap.size + 1 < k' ∧ k' < w5.heap.size := fun k' hk' => by have := hF.2.1 k' (by cases ra <;> exact hk'); omega
  have hmc : (m : Int) ≤ (rc : Int) := by have := unhide HML; omega
  have hBm : Bytes w5 (.slice ra m rc) ((x 0 ++ x 1).take m) := hF.1.take (unhide HML) (unhide HLN).symm
  obtain ⟨hB1, q1, q2⟩ := slice_first (s := (N 0)) hBm (unhide HXT) (by have := unhide HLF; omega)
  obtain ⟨sa, sc, hB2, q3, q4⟩ := slice_from (m := (N 0)) (lf := lf) hBm (unhide HXT) (unhide HLF)
  have HB1 := hide hB1
  have HB2 := hide hB2
  have HOA := hide hOA
  clear HG1 HG2 HBB
  have HG1 := hide hg1'
  have HG2 := hide hg2'
  have HBB := hide hbb
  clear hg1' hg2' hbb hBm hB1 hB2 hOA hlc hF hgl hgl2 HX0 HX1
  go_upto_region 12 with fail
  go_region_with (first
    | (go_at_call 59; refine (join_any _ _ [] (((x 0 ++ x 1).take m).drop (N 0)) _ (by exact .inl ⟨rfl, rfl⟩) (by exact (unhide HB2).kept (fun _ _ _ => rfl)) (unhide HJL)).mono ?_; rintro e w6 ⟨r, rfl, hF⟩; rw [List.nil_append] at hF; obtain ⟨rb, rd, hr, _⟩ := hF.1.form; rw [show (((x 0 ++ x 1).take m).drop (N 0)).length = lf by rw [List.length_drop, unhide HXT]; have := unhide HLF; omega] at hr; subst hr; have yl := (hF.2.2.cell (p := ⟨w.heap.size, 1, none⟩) hgl5).trans y1; have yl2 := (hF.2.2.cell (p := ⟨w.heap.size, 2, none⟩) hgl5).trans y2; have fz1 := (World.frozen?_of_block (a := ⟨w.heap.size, 1, none⟩) (hF.2.2.block w.heap.size hgl5)).trans f1; have fz2 := (World.frozen?_of_block (a := ⟨w.heap.size, 2, none⟩) (hF.2.2.block w.heap.size hgl5)).trans f2; have HF := hide hF; clear hF))
  have hg1' : w6.heap[w.heap.size]? = _ := (unhide HF).2.2.block w.heap.size hgl5 |>.trans (unhide HG1)
  have hg2' : w6.heap[w.heap.size + 1]? = _ := (unhide HF).2.2.block (w.heap.size + 1) hgl6 |>.trans (unhide HG2)
  have hsz : w5.drew.heap.size = w5.heap.size := rfl
  have hg1s : ((w6.setCell ⟨w.heap.size, 1, none⟩ (.slice ra (N 0) (N 0))).setCell ⟨w.heap.size, 2, none⟩ (.slice rb lf rd)).heap[w.heap.size]? = some (.cells (rl c (upd (upd P 0 ra) 1 rb) (upd (upd N 0 (N 0)) 1 lf) (upd (upd C 0 (N 0)) 1 rd) bf n' k false) 33 (0, 0)) := rl_set (rl_set hg1' 0 (by omega) ra (N 0) (N 0)) 1 (by omega) rb lf rd
  have hg2s := (Below.heap_setCell (w6.setCell ⟨w.heap.size, 1, none⟩ (.slice ra (N 0) (N 0))) ⟨w.heap.size, 2, none⟩ (.slice rb lf rd) (w.heap.size + 1) (by show w.heap.size + 1 ≠ w.heap.size; omega)).trans ((Below.heap_setCell w6 ⟨w.heap.size, 1, none⟩ (.slice ra (N 0) (N 0)) (w.heap.size + 1) (by show w.heap.size + 1 ≠ w.heap.size; omega)).trans hg2')
  have hbb : Below w.heap.size w w6 := (unhide HBB).drew.trans ((unhide HF).2.2.mono (Nat.le_of_lt hgl5))
  have hbb2 := (hbb.setCell (p := ⟨w.heap.size, 1, none⟩) (Nat.le_refl w.heap.size) (.slice ra (N 0) (N 0))).setCell (p := ⟨w.heap.size, 2, none⟩) (Nat.le_refl w.heap.size) (.slice rb lf rd)
  have hOB : ∀ k', (Value.slice rb lf rd).ownBlock = some k' → w.heap.size + 1 < k' := fun k' hk' => by have := ((unhide HF).2.1 k' hk').1; omega
  have hOA : ∀ k', (Value.slice ra (N 0) (N 0)).ownBlock = some k' → w.heap.size + 1 < k' ∧ k' < w5.drew.heap.size := unhide HOA
  have hBa : Bytes ((w6.setCell ⟨w.heap.size, 1, none⟩ (.slice ra (N 0) (N 0))).setCell ⟨w.heap.size, 2, none⟩ (.slice rb lf rd)) (.slice ra (N 0) (N 0)) (((x 0 ++ x 1).take m).take (N 0)) := (((unhide HB1).kept (fun k' hk' _ => (unhide HF).2.2.block k' (hOA k' hk').2)).kept fun k' hk' _ => Below.heap_setCell _ _ _ _ (by have := (hOA k' hk').1; show k' ≠ w.heap.size; omega)).kept fun k' hk' _ => Below.heap_setCell _ _ _ _ (by have := (hOA k' hk').1; show k' ≠ w.heap.size; omega)
  have hBb : Bytes ((w6.setCell ⟨w.heap.size, 1, none⟩ (.slice ra (N 0) (N 0))).setCell ⟨w.heap.size, 2, none⟩ (.slice rb lf rd)) (.slice rb lf rd) (((x 0 ++ x 1).take m).drop (N 0)) := ((unhide HF).1.kept fun k' hk' _ => Below.heap_setCell _ _ _ _ (by have := hOB k' hk'; show k' ≠ w.heap.size; omega)).kept fun k' hk' _ => Below.heap_setCell _ _ _ _ (by have := hOB k' hk'; show k' ≠ w.heap.size; omega)
  generalize World.setCell (World.setCell w6 _ _) _ _ = w7 at *
  have HG1s := hide hg1s
  have HG2s := hide hg2s
  have HB3 := hide hbb2
  have HBa := hide hBa
  have HBb := hide hBb
  have HOB := hide hOB
  clear hg1' hg2' hsz hg1s hg2s hbb hbb2 hBa hBb hOA hOB yl yl2 fz1 fz2 f1 f2 hgl5 hgl6 HF HG1 HG2 HBB HB1 HB2 q1 q2 q3 q4 y0 y1 y2 y3 y4 y5 y6 y7 y8 y9 y10 y11 y12
  go_wp2_with (first
    | refine wpList_load_row rfl 33 (.tmp 3) rfl w.heap.size rfl _ _ _ _ (unhide HG1s) Try.underlying33 rfl (by kernel_rfl) ?_
    | refine wpList_store_row rfl 33 (.tmp 6) (.tmp 67) rfl (w.heap.size + 1) _ rfl rfl _ _ (unhide HG2s) (by kernel_rfl) (unhide HZ) (rl_one ..) ?_)
  refine bodyPost_ret (results_ct rfl _ _ _ _ _ _ _ rfl (setRow_heap _ _ _ _ _ _ (unhide HG2s)) Try.underlying33 rfl (by kernel_rfl)) rfl ?_
  exact ⟨ra, rb, rd, rfl, (unhide HBa).kept fun k' hk' _ => setRow_other _ _ _ _ (by have := (unhide HOA k' hk').1; omega), (unhide HBb).kept fun k' hk' _ => setRow_other _ _ _ _ (by have := unhide HOB k' hk'; omega), fun k' hk' => by have := (unhide HOA k' hk').1; omega, fun k' hk' => by have := unhide HOB k' hk'; omega, below_setRow (unhide HB3) (by omega) _⟩

set_option maxHeartbeats 4000000 in
theorem ref_truncate_long1 (x : Nat → List UInt8) (hb : ∀ j, j < 4 → Bytes w (.slice (P j) (N j) (C j)) (x j)) (hl : (x 2).length + (x 3).length ≤ 1048576) (m : Int) (hm : ((x 2).length + (x 3).length : Nat) < m) :
    Calls Try.prog 32 #[.agg (rl c P N C bf n k false), .int .i64 1, .int .i64 m] w fun e w' => e = .returned (.tuple #[.agg (rl c P N C bf n k false), .int .i64 2]) ∧ Below w.heap.size w w' := by
  have HB := hide hb
  have HXL : Hid ((x 2).length + (x 3).length ≤ 140737488355328) := by show _ ≤ _; omega
  obtain ⟨ln, hln⟩ : ∃ ln, ln = (x 2 ++ x 3).length := ⟨_, rfl⟩
  have hln2 : ln = (x 2).length + (x 3).length := by rw [hln, List.length_append]
  have HLN := hide hln
  have hgt : m > (ln : Int) := by omega
  have hm0 : ¬ m < 0 := by omega
  clear hb hl hm hln hln2
  go_enter Try.func32, Try.ntmps32
  unfold rl
  go_wp2_with fail
  generalize hww : World.alloc (World.alloc w _) _ = w1
  have hg1 : w1.heap[w.heap.size]? = some (.cells (rl c P N C bf n k false) 33 (0, 0)) := by rw [← hww, Below.heap_alloc _ _ _ (by simp)]; exact heap_alloc_new w _
  have hg2 : ∃ z, z.size = 13 ∧ w1.heap[w.heap.size + 1]? = some (.cells z 33 (0, 0)) := ⟨_, rfl, by rw [← hww]; exact heap_last _ _ _ (by simp)⟩
  have hb1 : Below w.heap.size w w1 := by rw [← hww]; exact ((Below.refl _ w).alloc (Nat.le_refl _) _).alloc (by simp) _
  clear hww
  refine (all_at1 c P N C bf n k false w1 (x 2) (x 3) ((unhide HB 2 (by omega)).kept fun k' _ hk' => hb1.block k' hk') ((unhide HB 3 (by omega)).kept fun k' _ hk' => hb1.block k' hk') (unhide HXL)).mono ?_
  rintro e w2 ⟨r, rfl, hF⟩
  obtain ⟨r1, rc1, hr, _⟩ := hF.1.form
  rw [← unhide HLN] at hr
  subst hr
  have hb2 := hF.2.2
  obtain ⟨z, hz, hg2⟩ := hg2
  have HZ := hide hz
  have hg1' := row_later hg1 hb2
  have hg2' := row_later hg2 hb2
  have hbb := hb1.trans (hb2.mono hb1.size)
  obtain ⟨y0, y1, y2, y3, y4, y5, y6, y7, y8, y9, y10, y11, y12⟩ := row13 hg1'
  have HG1 := hide hg1'
  have HG2 := hide hg2'
  have HBB := hide hbb
  clear hg1 hg2 hb1 hb2 hg1' hg2' hz hbb hF
  go_wp2_with (refine wpList_store_row rfl 33 (.tmp 6) (.tmp 32) rfl (w.heap.size + 1) (rl c P N C bf n k false) rfl rfl _ _ (unhide HG2) (by kernel_rfl) (unhide HZ) (rl_one ..) ?_)
  refine bodyPost_ret (results_ct rfl _ _ _ _ _ _ _ rfl (setRow_heap _ _ _ _ _ _ (unhide HG2)) Try.underlying33 rfl (by kernel_rfl)) rfl ?_
  exact ⟨rfl, below_setRow (unhide HBB) (by omega) _⟩

set_option maxHeartbeats 4000000 in
theorem ref_truncate_kill1 (n' : Int) (hk : Kills c P N C bf n k n' true) (x : Nat → List UInt8) (hb : ∀ j, j < 4 → Bytes w (.slice (P j) (N j) (C j)) (x j)) (hl : (x 2).length + (x 3).length ≤ 1048576) (m : Nat) (hm : m ≤ (x 2).length + (x 3).length) :
    Calls Try.prog 32 #[.agg (rl c P N C bf n k false), .int .i64 1, .int .i64 m] w fun e w' => e = .returned (.tuple #[.agg (rl c P N C bf n' k true), .int .i64 3]) ∧ Below w.heap.size w w' := by
  have HK := hide hk
  have HB := hide hb
  have HXL : Hid ((x 2).length + (x 3).length ≤ 140737488355328) := by show _ ≤ _; omega
  obtain ⟨ln, hln⟩ : ∃ ln, ln = (x 2 ++ x 3).length := ⟨_, rfl⟩
  have hln2 : ln = (x 2).length + (x 3).length := by rw [hln, List.length_append]
  have HLN := hide hln
  have hgt : ¬ (m : Int) > (ln : Int) := by omega
  have hm0 : ¬ (m : Int) < 0 := by omega
  clear hb hl hm hln hln2 hk
  go_enter Try.func32, Try.ntmps32
  unfold rl
  go_wp2_with fail
  generalize hww : World.alloc (World.alloc w _) _ = w1
  have hg1 : w1.heap[w.heap.size]? = some (.cells (rl c P N C bf n k false) 33 (0, 0)) := by rw [← hww, Below.heap_alloc _ _ _ (by simp)]; exact heap_alloc_new w _
  have hg2 : ∃ z, z.size = 13 ∧ w1.heap[w.heap.size + 1]? = some (.cells z 33 (0, 0)) := ⟨_, rfl, by rw [← hww]; exact heap_last _ _ _ (by simp)⟩
  have hb1 : Below w.heap.size w w1 := by rw [← hww]; exact ((Below.refl _ w).alloc (Nat.le_refl _) _).alloc (by simp) _
  clear hww
  refine (all_at1 c P N C bf n k false w1 (x 2) (x 3) ((unhide HB 2 (by omega)).kept fun k' _ hk' => hb1.block k' hk') ((unhide HB 3 (by omega)).kept fun k' _ hk' => hb1.block k' hk') (unhide HXL)).mono ?_
  rintro e w2 ⟨r, rfl, hF⟩
  obtain ⟨r1, rc1, hr, _⟩ := hF.1.form
  rw [← unhide HLN] at hr
  subst hr
  have hb2 := hF.2.2
  obtain ⟨z, hz, hg2⟩ := hg2
  have HZ := hide hz
  have hg1' := row_later hg1 hb2
  have hg2' := row_later hg2 hb2
  have hbb := hb1.trans (hb2.mono hb1.size)
  obtain ⟨y0, y1, y2, y3, y4, y5, y6, y7, y8, y9, y10, y11, y12⟩ := row13 hg1'
  have HG1 := hide hg1'
  have HG2 := hide hg2'
  have HBB := hide hbb
  clear hg1 hg2 hb1 hb2 hg1' hg2' hz hbb hF
  go_wp2_with fail
  refine (unhide HK _).mono ?_
  rintro e w3 ⟨rfl, hb3⟩
  clear y0 y1 y2 y3 y4 y5 y6 y7 y8 y9 y10 y11 y12
  have hg1' := row_later (unhide HG1) hb3
  have hg2' := row_later (unhide HG2) hb3
  have hbb := (unhide HBB).trans (hb3.mono (unhide HBB).size)
  clear HG1 HG2 HBB
  have HG1 := hide hg1'
  have HG2 := hide hg2'
  have HBB := hide hbb
  clear hg1' hg2' hbb hb3
  go_wp2_with (first
    | refine wpList_store_row rfl 33 (.tmp 3) (.tmp 36) rfl w.heap.size (rl c P N C bf n' k true) rfl rfl _ _ (unhide HG1) (by kernel_rfl) rfl (rl_one ..) ?_
    | refine wpList_load_row rfl 33 (.tmp 3) rfl w.heap.size rfl _ _ _ _ (setRow_heap w3 w.heap.size _ (rl c P N C bf n' k true) _ _ (unhide HG1)) Try.underlying33 rfl (by kernel_rfl) ?_
    | refine wpList_store_row rfl 33 (.tmp 6) (.tmp 39) rfl (w.heap.size + 1) (rl c P N C bf n' k true) rfl rfl _ _ ((setRow_other w3 w.heap.size (w.heap.size + 1) (rl c P N C bf n' k true) (by omega)).trans (unhide HG2)) (by kernel_rfl) (unhide HZ) (rl_one ..) ?_)
  refine bodyPost_ret (results_ct rfl _ _ _ _ _ _ _ rfl (setRow_heap _ _ _ _ _ _ ((setRow_other w3 w.heap.size (w.heap.size + 1) (rl c P N C bf n' k true) (by omega)).trans (unhide HG2))) Try.underlying33 rfl (by kernel_rfl)) rfl ?_
  exact ⟨rfl, below_setRow (below_setRow (unhide HBB) (Nat.le_refl _) _) (by omega) _⟩

set_option maxHeartbeats 8000000 in
theorem ref_truncate_ok1A (n' : Int) (hk : Kills c P N C bf n k n' false) (x : Nat → List UInt8) (hb : ∀ j, j < 4 → Bytes w (.slice (P j) (N j) (C j)) (x j)) (hl : (x 2).length + (x 3).length ≤ 1048576) (m : Nat) (hm : m ≤ (x 2).length + (x 3).length) (hlt : (m : Int) < (N 2 : Int)) :
    Calls Try.prog 32 #[.agg (rl c P N C bf n k false), .int .i64 1, .int .i64 m] w fun e w' => ∃ ra rb rd, e = .returned (.tuple #[.agg (rl c (upd (upd P 2 ra) 3 rb) (upd (upd N 2 m) 3 0) (upd (upd C 2 m) 3 rd) bf n' k false), .int .i64 0]) ∧ Bytes w' (.slice ra m m) (((x 2 ++ x 3).take m).take m) ∧ Bytes w' (.slice rb 0 rd) (((x 2 ++ x 3).take m).drop m) ∧ (∀ k, (Value.slice ra m m).ownBlock = some k → w.heap.size ≤ k) ∧ (∀ k, (Value.slice rb 0 rd).ownBlock = some k → w.heap.size ≤ k) ∧ Below w.heap.size w w' := by
  have HK := hide hk
  have HB := hide hb
  have HXL : Hid ((x 2).length + (x 3).length ≤ 140737488355328) := by show _ ≤ _; omega
  obtain ⟨ln, hln⟩ : ∃ ln, ln = (x 2 ++ x 3).length := ⟨_, rfl⟩
  have hln2 : ln = (x 2).length + (x 3).length := by rw [hln, List.length_append]
  have HLN := hide hln
  have hgt : ¬ (m : Int) > (ln : Int) := by omega
  have hm0 : ¬ (m : Int) < 0 := by omega
  have hm1 : (0 : Int) ≤ (m : Int) := by omega
  have HML : Hid (m ≤ ln) := by show m ≤ ln; omega
  have HXT : Hid (((x 2 ++ x 3).take m).length = m) := by show _ = m; rw [List.length_take, ← hln]; omega
  have HLF : Hid (m = m + 0) := by show m = _; omega
  have HJL : Hid (([] : List UInt8).length + (((x 2 ++ x 3).take m).drop m).length ≤ 140737488355328) := by show 0 + _ ≤ _; rw [List.length_drop, List.length_take, ← hln]; omega
  clear hb hl hm hln hln2 hk
  go_enter Try.func32, Try.ntmps32
  unfold rl
  go_wp2_with fail
  generalize hww : World.alloc (World.alloc w _) _ = w1
  have hg1 : w1.heap[w.heap.size]? = some (.cells (rl c P N C bf n k false) 33 (0, 0)) := by rw [← hww, Below.heap_alloc _ _ _ (by simp)]; exact heap_alloc_new w _
  have hg2 : ∃ z, z.size = 13 ∧ w1.heap[w.heap.size + 1]? = some (.cells z 33 (0, 0)) := ⟨_, rfl, by rw [← hww]; exact heap_last _ _ _ (by simp)⟩
  have hb1 : Below w.heap.size w w1 := by rw [← hww]; exact ((Below.refl _ w).alloc (Nat.le_refl _) _).alloc (by simp) _
  clear hww
  refine (all_at1 c P N C bf n k false w1 (x 2) (x 3) ((unhide HB 2 (by omega)).kept fun k' _ hk' => hb1.block k' hk') ((unhide HB 3 (by omega)).kept fun k' _ hk' => hb1.block k' hk') (unhide HXL)).mono ?_
  rintro e w2 ⟨r, rfl, hF⟩
  obtain ⟨r1, rc1, hr, _⟩ := hF.1.form
  rw [← unhide HLN] at hr
  subst hr
  have hb2 := hF.2.2
  obtain ⟨z, hz, hg2⟩ := hg2
  have HZ := hide hz
  have hg1' := row_later hg1 hb2
  have hg2' := row_later hg2 hb2
  have hbb := hb1.trans (hb2.mono hb1.size)
  obtain ⟨y0, y1, y2, y3, y4, y5, y6, y7, y8, y9, y10, y11, y12⟩ := row13 hg1'
  have HG1 := hide hg1'
  have HG2 := hide hg2'
  have HBB := hide hbb
  clear hg1 hg2 hb1 hb2 hg1' hg2' hz hbb hF
  go_wp2_with fail
  refine (unhide HK _).mono ?_
  rintro e w3 ⟨rfl, hb3⟩
  clear y0 y1 y2 y3 y4 y5 y6 y7 y8 y9 y10 y11 y12
  have hg1' := row_later (unhide HG1) hb3
  have hg2' := row_later (unhide HG2) hb3
  have hbb := (unhide HBB).trans (hb3.mono (unhide HBB).size)
  clear HG1 HG2 HBB
  have HG1 := hide hg1'
  have HG2 := hide hg2'
  have HBB := hide hbb
  clear hg1' hg2' hbb hb3
  go_upto_region 8 with (refine wpList_store_row rfl 33 (.tmp 3) (.tmp 36) rfl w.heap.size (rl c P N C bf n' k false) rfl rfl _ _ (unhide HG1) (by kernel_rfl) rfl (rl_one ..) ?_)
  have hg2' := (setRow_other w3 w.heap.size (w.heap.size + 1) (rl c P N C bf n' k false) (by omega)).trans (unhide HG2)
  have hg1' := setRow_heap w3 w.heap.size _ (rl c P N C bf n' k false) _ _ (unhide HG1)
  have hbb := below_setRow (unhide HBB) (Nat.le_refl w.heap.size) (rl c P N C bf n' k false)
  generalize w3.setRow _ _ = w4 at *
  clear HG1 HG2 HBB
  have HG1 := hide hg1'
  have HG2 := hide hg2'
  have HBB := hide hbb
  have hgl : w.heap.size < w4.heap.size := lt_of_row hg1'
  have hgl2 : w.heap.size + 1 < w4.heap.size := lt_of_row hg2'
  obtain ⟨y0, y1, y2, y3, y4, y5, y6, y7, y8, y9, y10, y11, y12⟩ := row13 hg1'
  clear hg1' hg2' hbb
  have HX0 : Hid (Bytes w4 (.slice (P 2) (N 2) (C 2)) (x 2)) := (unhide HB 2 (by omega)).kept fun k' _ hk' => (unhide HBB).block k' hk'
  have HX1 : Hid (Bytes w4 (.slice (P 3) (N 3) (C 3)) (x 3)) := (unhide HB 3 (by omega)).kept fun k' _ hk' => (unhide HBB).block k' hk'
  go_wp2_with fail
  refine (all_at1 c P N C bf n' k false _ (x 2) (x 3) (unhide HX0) (unhide HX1) (unhide HXL)).mono ?_
  rintro e w5 ⟨r, rfl, hF⟩
  obtain ⟨ra, rc, hr, hlc⟩ := hF.1.form
  rw [← unhide HLN] at hr hlc
  subst hr
  clear y0 y1 y2 y3 y4 y5 y6 y7 y8 y9 y10 y11 y12
  have hg1' : w5.heap[w.heap.size]? = _ := (hF.2.2.block w.heap.size hgl).trans (unhide HG1)
  have hg2' : w5.heap[w.heap.size + 1]? = _ := (hF.2.2.block (w.heap.size + 1) hgl2).trans (unhide HG2)
  have hgl5 : w.heap.size < w5.heap.size := lt_of_row hg1'
  have hgl6 : w.heap.size + 1 < w5.heap.size := lt_of_row hg2'
  obtain ⟨y0, y1, y2, y3, y4, y5, y6, y7, y8, y9, y10, y11, y12⟩ := row13 hg1'
  have f1 := rl_frz hg1' 3
  have f2 := rl_frz hg1' 4
  have hbb : Below w.heap.size w w5 := (unhide HBB).trans (hF.2.2.mono (Nat.le_of_lt hgl))
  have hOA : ∀ k', (Value.slice ra m m).ownBlock = some k' → w.heap.size + 1 < k' ∧ k' < w5.heap.size := fun k' hk' => by have := hF.2.1 k' (by cases ra <;> exact hk'); omega
  have hmc : (m : Int) ≤ (rc : Int) := by have := unhide HML; omega
  have hBm : Bytes w5 (.slice ra m rc) ((x 2 ++ x 3).take m) := hF.1.take (unhide HML) (unhide HLN).symm
  obtain ⟨hB1, q1, q2⟩ := slice_first (s := m) hBm (unhide HXT) (by have := unhide HLF; omega)
  obtain ⟨sa, sc, hB2, q3, q4⟩ := slice_from (m := m) (lf := 0) hBm (unhide HXT) (unhide HLF)
  have HB1 := hide hB1
  have HB2 := hide hB2
  have HOA := hide hOA
  clear HG1 HG2 HBB
  have HG1 := hide hg1'
  have HG2 := hide hg2'
  have HBB := hide hbb
  clear hg1' hg2' hbb hBm hB1 hB2 hOA hlc hF hgl hgl2 HX0 HX1
  go_upto_region 12 with fail
  go_region_with (first
    | (go_at_call 59; refine (join_any _ _ [] (((x 2 ++ x 3).take m).drop m) _ (by exact .inl ⟨rfl, rfl⟩) (by exact (unhide HB2).kept (fun _ _ _ => rfl)) (unhide HJL)).mono ?_; rintro e w6 ⟨r, rfl, hF⟩; rw [List.nil_append] at hF; obtain ⟨rb, rd, hr, _⟩ := hF.1.form; rw [show (((x 2 ++ x 3).take m).drop m).length = 0 by rw [List.length_drop, unhide HXT]; have := unhide HLF; omega] at hr; subst hr; have yl := (hF.2.2.cell (p := ⟨w.heap.size, 3, none⟩) hgl5).trans y3; have yl2 := (hF.2.2.cell (p := ⟨w.heap.size, 4, none⟩) hgl5).trans y4; have fz1 := (World.frozen?_of_block (a := ⟨w.heap.size, 3, none⟩) (hF.2.2.block w.heap.size hgl5)).trans f1; have fz2 := (World.frozen?_of_block (a := ⟨w.heap.size, 4, none⟩) (hF.2.2.block w.heap.size hgl5)).trans f2; have HF := hide hF; clear hF))
  have hg1' : w6.heap[w.heap.size]? = _ := (unhide HF).2.2.block w.heap.size hgl5 |>.trans (unhide HG1)
  have hg2' : w6.heap[w.heap.size + 1]? = _ := (unhide HF).2.2.block (w.heap.size + 1) hgl6 |>.trans (unhide HG2)
  have hsz : w5.drew.heap.size = w5.heap.size := rfl
  have hg1s : ((w6.setCell ⟨w.heap.size, 3, none⟩ (.slice ra m m)).setCell ⟨w.heap.size, 4, none⟩ (.slice rb 0 rd)).heap[w.heap.size]? = some (.cells (rl c (upd (upd P 2 ra) 3 rb) (upd (upd N 2 m) 3 0) (upd (upd C 2 m) 3 rd) bf n' k false) 33 (0, 0)) := rl_set (rl_set hg1' 2 (by omega) ra m m) 3 (by omega) rb 0 rd
  have hg2s := (Below.heap_setCell (w6.setCell ⟨w.heap.size, 3, none⟩ (.slice ra m m)) ⟨w.heap.size, 4, none⟩ (.slice rb 0 rd) (w.heap.size + 1) (by show w.heap.size + 1 ≠ w.heap.size; omega)).trans ((Below.heap_setCell w6 ⟨w.heap.size, 3, none⟩ (.slice ra m m) (w.heap.size + 1) (by show w.heap.size + 1 ≠ w.heap.size; omega)).trans hg2')
  have hbb : Below w.heap.size w w6 := (unhide HBB).drew.trans ((unhide HF).2.2.mono (Nat.le_of_lt hgl5))
  have hbb2 := (hbb.setCell (p := ⟨w.heap.size, 3, none⟩) (Nat.le_refl w.heap.size) (.slice ra m m)).setCell (p := ⟨w.heap.size, 4, none⟩) (Nat.le_refl w.heap.size) (.slice rb 0 rd)
  have hOB : ∀ k', (Value.slice rb 0 rd).ownBlock = some k' → w.heap.size + 1 < k' := fun k' hk' => by have := ((unhide HF).2.1 k' hk').1; omega
  have hOA : ∀ k', (Value.slice ra m m).ownBlock = some k' → w.heap.size + 1 < k' ∧ k' < w5.drew.heap.size := unhide HOA
  have hBa : Bytes ((w6.setCell ⟨w.heap.size, 3, none⟩ (.slice ra m m)).setCell ⟨w.heap.size, 4, none⟩ (.slice rb 0 rd)) (.slice ra m m) (((x 2 ++ x 3).take m).take m) := (((unhide HB1).kept (fun k' hk' _ => (unhide HF).2.2.block k' (hOA k' hk').2)).kept fun k' hk' _ => Below.heap_setCell _ _ _ _ (by have := (hOA k' hk').1; show k' ≠ w.heap.size; omega)).kept fun k' hk' _ => Below.heap_setCell _ _ _ _ (by have := (hOA k' hk').1; show k' ≠ w.heap.size; omega)
  have hBb : Bytes ((w6.setCell ⟨w.heap.size, 3, none⟩ (.slice ra m m)).setCell ⟨w.heap.size, 4, none⟩ (.slice rb 0 rd)) (.slice rb 0 rd) (((x 2 ++ x 3).take m).drop m) := ((unhide HF).1.kept fun k' hk' _ => Below.heap_setCell _ _ _ _ (by have := hOB k' hk'; show k' ≠ w.heap.size; omega)).kept fun k' hk' _ => Below.heap_setCell _ _ _ _ (by have := hOB k' hk'; show k' ≠ w.heap.size; omega)
  generalize World.setCell (World.setCell w6 _ _) _ _ = w7 at *
  have HG1s := hide hg1s
  have HG2s := hide hg2s
  have HB3 := hide hbb2
  have HBa := hide hBa
  have HBb := hide hBb
  have HOB := hide hOB
  clear hg1' hg2' hsz hg1s hg2s hbb hbb2 hBa hBb hOA hOB yl yl2 fz1 fz2 f1 f2 hgl5 hgl6 HF HG1 HG2 HBB HB1 HB2 q1 q2 q3 q4 y0 y1 y2 y3 y4 y5 y6 y7 y8 y9 y10 y11 y12
  go_wp2_with (first
    | refine wpList_load_row rfl 33 (.tmp 3) rfl w.heap.size rfl _ _ _ _ (unhide HG1s) Try.underlying33 rfl (by kernel_rfl) ?_
    | refine wpList_store_row rfl 33 (.tmp 6) (.tmp 67) rfl (w.heap.size + 1) _ rfl rfl _ _ (unhide HG2s) (by kernel_rfl) (unhide HZ) (rl_one ..) ?_)
  refine bodyPost_ret (results_ct rfl _ _ _ _ _ _ _ rfl (setRow_heap _ _ _ _ _ _ (unhide HG2s)) Try.underlying33 rfl (by kernel_rfl)) rfl ?_
  exact ⟨ra, rb, rd, rfl, (unhide HBa).kept fun k' hk' _ => setRow_other _ _ _ _ (by have := (unhide HOA k' hk').1; omega), (unhide HBb).kept fun k' hk' _ => setRow_other _ _ _ _ (by have := unhide HOB k' hk'; omega), fun k' hk' => by have := (unhide HOA k' hk').1; omega, fun k' hk' => by have := unhide HOB k' hk'; omega, below_setRow (unhide HB3) (by omega) _⟩

set_option maxHeartbeats 8000000 in
theorem ref_truncate_ok1B (n' : Int) (hk : Kills c P N C bf n k n' false) (x : Nat → List UInt8) (hb : ∀ j, j < 4 → Bytes w (.slice (P j) (N j) (C j)) (x j)) (hl : (x 2).length + (x 3).length ≤ 1048576) (m : Nat) (hm : m ≤ (x 2).length + (x 3).length) (hlt : ¬ (m : Int) < (N 2 : Int)) (lf : Nat) (hlf : m = N 2 + lf) :
    Calls Try.prog 32 #[.agg (rl c P N C bf n k false), .int .i64 1, .int .i64 m] w fun e w' => ∃ ra rb rd, e = .returned (.tuple #[.agg (rl c (upd (upd P 2 ra) 3 rb) (upd (upd N 2 (N 2)) 3 lf) (upd (upd C 2 (N 2)) 3 rd) bf n' k false), .int .i64 0]) ∧ Bytes w' (.slice ra (N 2) (N 2)) (((x 2 ++ x 3).take m).take (N 2)) ∧ Bytes w' (.slice rb lf rd) (((x 2 ++ x 3).take m).drop (N 2)) ∧ (∀ k, (Value.slice ra (N 2) (N 2)).ownBlock = some k → w.heap.size ≤ k) ∧ (∀ k, (Value.slice rb lf rd).ownBlock = some k → w.heap.size ≤ k) ∧ Below w.heap.size w w' := by
  have HK := hide hk
  have HB := hide hb
  have HXL : Hid ((x 2).length + (x 3).length ≤ 140737488355328) := by show _ ≤ _; omega
  obtain ⟨ln, hln⟩ : ∃ ln, ln = (x 2 ++ x 3).length := ⟨_, rfl⟩
  have hln2 : ln = (x 2).length + (x 3).length := by rw [hln, List.length_append]
  have HLN := hide hln
  have hgt : ¬ (m : Int) > (ln : Int) := by omega
  have hm0 : ¬ (m : Int) < 0 := by omega
  have hm1 : (0 : Int) ≤ (m : Int) := by omega
  have HML : Hid (m ≤ ln) := by show m ≤ ln; omega
  have HXT : Hid (((x 2 ++ x 3).take m).length = m) := by show _ = m; rw [List.length_take, ← hln]; omega
  have HLF : Hid (m = (N 2) + lf) := by show m = _; omega
  have HJL : Hid (([] : List UInt8).length + (((x 2 ++ x 3).take m).drop (N 2)).length ≤ 140737488355328) := by show 0 + _ ≤ _; rw [List.length_drop, List.length_take, ← hln]; omega
  clear hb hl hm hln hln2 hk hlf
  go_enter Try.func32, Try.ntmps32
  unfold rl
  go_wp2_with fail
  generalize hww : World.alloc (World.alloc w _) _ = w1
  have hg1 : w1.heap[w.heap.size]? = some (.cells (rl c P N C bf n k false) 33 (0, 0)) := by rw [← hww, Below.heap_alloc _ _ _ (by simp)]; exact heap_alloc_new w _
  have hg2 : ∃ z, z.size = 13 ∧ w1.heap[w.heap.size + 1]? = some (.cells z 33 (0, 0)) := ⟨_, rfl, by rw [← hww]; exact heap_last _ _ _ (by simp)⟩
  have hb1 : Below w.heap.size w w1 := by rw [← hww]; exact ((Below.refl _ w).alloc (Nat.le_refl _) _).alloc (by simp) _
  clear hww
  refine (all_at1 c P N C bf n k false w1 (x 2) (x 3) ((unhide HB 2 (by omega)).kept fun k' _ hk' => hb1.block k' hk') ((unhide HB 3 (by omega)).kept fun k' _ hk' => hb1.block k' hk') (unhide HXL)).mono ?_
  rintro e w2 ⟨r, rfl, hF⟩
  obtain ⟨r1, rc1, hr, _⟩ := hF.1.form
  rw [← unhide HLN] at hr
  subst hr
  have hb2 := hF.2.2
  obtain ⟨z, hz, hg2⟩ := hg2
  have HZ := hide hz
  have hg1' := row_later hg1 hb2
  have hg2' := row_later hg2 hb2
  have hbb := hb1.trans (hb2.mono hb1.size)
  obtain ⟨y0, y1, y2, y3, y4, y5, y6, y7, y8, y9, y10, y11, y12⟩ := row13 hg1'
  have HG1 := hide hg1'
  have HG2 := hide hg2'
  have HBB := hide hbb
  clear hg1 hg2 hb1 hb2 hg1' hg2' hz hbb hF
  go_wp2_with fail
  refine (unhide HK _).mono ?_
  rintro e w3 ⟨rfl, hb3⟩
  clear y0 y1 y2 y3 y4 y5 y6 y7 y8 y9 y10 y11 y12
  have hg1' := row_later (unhide HG1) hb3
  have hg2' := row_later (unhide HG2) hb3
  have hbb := (unhide HBB).trans (hb3.mono (unhide HBB).size)
  clear HG1 HG2 HBB
  have HG1 := hide hg1'
  have HG2 := hide hg2'
  have HBB := hide hbb
  clear hg1' hg2' hbb hb3
  go_upto_region 8 with (refine wpList_store_row rfl 33 (.tmp 3) (.tmp 36) rfl w.heap.size (rl c P N C bf n' k false) rfl rfl _ _ (unhide HG1) (by kernel_rfl) rfl (rl_one ..) ?_)
  have hg2' := (setRow_other w3 w.heap.size (w.heap.size + 1) (rl c P N C bf n' k false) (by omega)).trans (unhide HG2)
  have hg1' := setRow_heap w3 w.heap.size _ (rl c P N C bf n' k false) _ _ (unhide HG1)
  have hbb := below_setRow (unhide HBB) (Nat.le_refl w.heap.size) (rl c P N C bf n' k false)
  generalize w3.setRow _ _ = w4 at *
  clear HG1 HG2 HBB
  have HG1 := hide hg1'
  have HG2 := hide hg2'
  have HBB := hide hbb
  have hgl : w.heap.size < w4.heap.size := lt_of_row hg1'
  have hgl2 : w.heap.size + 1 < w4.heap.size := lt_of_row hg2'
  obtain ⟨y0, y1, y2, y3, y4, y5, y6, y7, y8, y9, y10, y11, y12⟩ := row13 hg1'
  clear hg1' hg2' hbb
  have HX0 : Hid (Bytes w4 (.slice (P 2) (N 2) (C 2)) (x 2)) := (unhide HB 2 (by omega)).kept fun k' _ hk' => (unhide HBB).block k' hk'
  have HX1 : Hid (Bytes w4 (.slice (P 3) (N 3) (C 3)) (x 3)) := (unhide HB 3 (by omega)).kept fun k' _ hk' => (unhide HBB).block k' hk'
  go_wp2_with fail
  refine (all_at1 c P N C bf n' k false _ (x 2) (x 3) (unhide HX0) (unhide HX1) (unhide HXL)).mono ?_
  rintro e w5 ⟨r, rfl, hF⟩
  obtain ⟨ra, rc, hr, hlc⟩ := hF.1.form
  rw [← unhide HLN] at hr hlc
  subst hr
  clear y0 y1 y2 y3 y4 y5 y6 y7 y8 y9 y10 y11 y12
  have hg1' : w5.heap[w.heap.size]? = _ := (hF.2.2.block w.heap.size hgl).trans (unhide HG1)
  have hg2' : w5.heap[w.heap.size + 1]? = _ := (hF.2.2.block (w.heap.size + 1) hgl2).trans (unhide HG2)
  have hgl5 : w.heap.size < w5.heap.size := lt_of_row hg1'
  have hgl6 : w.heap.size + 1 < w5.heap.size := lt_of_row hg2'
  obtain ⟨y0, y1, y2, y3, y4, y5, y6, y7, y8, y9, y10, y11, y12⟩ := row13 hg1'
  have f1 := rl_frz hg1' 3
  have f2 := rl_frz hg1' 4
  have hbb : Below w.heap.size w w5 := (unhide HBB).trans (hF.2.2.mono (Nat.le_of_lt hgl))
  have hOA : ∀ k', (Value.slice ra (N 2) (N 2)).ownBlock = some k' → w.heap.size + 1 < k' ∧ k' < w5.heap.size := fun k' hk' => by have := hF.2.1 k' (by cases ra <;> exact hk'); omega
  have hmc : (m : Int) ≤ (rc : Int) := by have := unhide HML; omega
  have hBm : Bytes w5 (.slice ra m rc) ((x 2 ++ x 3).take m) := hF.1.take (unhide HML) (unhide HLN).symm
  obtain ⟨hB1, q1, q2⟩ := slice_first (s := (N 2)) hBm (unhide HXT) (by have := unhide HLF; omega)
  obtain ⟨sa, sc, hB2, q3, q4⟩ := slice_from (m := (N 2)) (lf := lf) hBm (unhide HXT) (unhide HLF)
  have HB1 := hide hB1
  have HB2 := hide hB2
  have HOA := hide hOA
  clear HG1 HG2 HBB
  have HG1 := hide hg1'
  have HG2 := hide hg2'
  have HBB := hide hbb
  clear hg1' hg2' hbb hBm hB1 hB2 hOA hlc hF hgl hgl2 HX0 HX1
  go_upto_region 12 with fail
  go_region_with (first
    | (go_at_call 59; refine (join_any _ _ [] (((x 2 ++ x 3).take m).drop (N 2)) _ (by exact .inl ⟨rfl, rfl⟩) (by exact (unhide HB2).kept (fun _ _ _ => rfl)) (unhide HJL)).mono ?_; rintro e w6 ⟨r, rfl, hF⟩; rw [List.nil_append] at hF; obtain ⟨rb, rd, hr, _⟩ := hF.1.form; rw [show (((x 2 ++ x 3).take m).drop (N 2)).length = lf by rw [List.length_drop, unhide HXT]; have := unhide HLF; omega] at hr; subst hr; have yl := (hF.2.2.cell (p := ⟨w.heap.size, 3, none⟩) hgl5).trans y3; have yl2 := (hF.2.2.cell (p := ⟨w.heap.size, 4, none⟩) hgl5).trans y4; have fz1 := (World.frozen?_of_block (a := ⟨w.heap.size, 3, none⟩) (hF.2.2.block w.heap.size hgl5)).trans f1; have fz2 := (World.frozen?_of_block (a := ⟨w.heap.size, 4, none⟩) (hF.2.2.block w.heap.size hgl5)).trans f2; have HF := hide hF; clear hF))
  have hg1' : w6.heap[w.heap.size]? = _ := (unhide HF).2.2.block w.heap.size hgl5 |>.trans (unhide HG1)
  have hg2' : w6.heap[w.heap.size + 1]? = _ := (unhide HF).2.2.block (w.heap.size + 1) hgl6 |>.trans (unhide HG2)
  have hsz : w5.drew.heap.size = w5.heap.size := rfl
  have hg1s : ((w6.setCell ⟨w.heap.size, 3, none⟩ (.slice ra (N 2) (N 2))).setCell ⟨w.heap.size, 4, none⟩ (.slice rb lf rd)).heap[w.heap.size]? = some (.cells (rl c (upd (upd P 2 ra) 3 rb) (upd (upd N 2 (N 2)) 3 lf) (upd (upd C 2 (N 2)) 3 rd) bf n' k false) 33 (0, 0)) := rl_set (rl_set hg1' 2 (by omega) ra (N 2) (N 2)) 3 (by omega) rb lf rd
  have hg2s := (Below.heap_setCell (w6.setCell ⟨w.heap.size, 3, none⟩ (.slice ra (N 2) (N 2))) ⟨w.heap.size, 4, none⟩ (.slice rb lf rd) (w.heap.size + 1) (by show w.heap.size + 1 ≠ w.heap.size; omega)).trans ((Below.heap_setCell w6 ⟨w.heap.size, 3, none⟩ (.slice ra (N 2) (N 2)) (w.heap.size + 1) (by show w.heap.size + 1 ≠ w.heap.size; omega)).trans hg2')
  have hbb : Below w.heap.size w w6 := (unhide HBB).drew.trans ((unhide HF).2.2.mono (Nat.le_of_lt hgl5))
  have hbb2 := (hbb.setCell (p := ⟨w.heap.size, 3, none⟩) (Nat.le_refl w.heap.size) (.slice ra (N 2) (N 2))).setCell (p := ⟨w.heap.size, 4, none⟩) (Nat.le_refl w.heap.size) (.slice rb lf rd)
  have hOB : ∀ k', (Value.slice rb lf rd).ownBlock = some k' → w.heap.size + 1 < k' := fun k' hk' => by have := ((unhide HF).2.1 k' hk').1; omega
  have hOA : ∀ k', (Value.slice ra (N 2) (N 2)).ownBlock = some k' → w.heap.size + 1 < k' ∧ k' < w5.drew.heap.size := unhide HOA
  have hBa : Bytes ((w6.setCell ⟨w.heap.size, 3, none⟩ (.slice ra (N 2) (N 2))).setCell ⟨w.heap.size, 4, none⟩ (.slice rb lf rd)) (.slice ra (N 2) (N 2)) (((x 2 ++ x 3).take m).take (N 2)) := (((unhide HB1).kept (fun k' hk' _ => (unhide HF).2.2.block k' (hOA k' hk').2)).kept fun k' hk' _ => Below.heap_setCell _ _ _ _ (by have := (hOA k' hk').1; show k' ≠ w.heap.size; omega)).kept fun k' hk' _ => Below.heap_setCell _ _ _ _ (by have := (hOA k' hk').1; show k' ≠ w.heap.size; omega)
  have hBb : Bytes ((w6.setCell ⟨w.heap.size, 3, none⟩ (.slice ra (N 2) (N 2))).setCell ⟨w.heap.size, 4, none⟩ (.slice rb lf rd)) (.slice rb lf rd) (((x 2 ++ x 3).take m).drop (N 2)) := ((unhide HF).1.kept fun k' hk' _ => Below.heap_setCell _ _ _ _ (by have := hOB k' hk'; show k' ≠ w.heap.size; omega)).kept fun k' hk' _ => Below.heap_setCell _ _ _ _ (by have := hOB k' hk'; show k' ≠ w.heap.size; omega)
  generalize World.setCell (World.setCell w6 _ _) _ _ = w7 at *
  have HG1s := hide hg1s
  have HG2s := hide hg2s
  have HB3 := hide hbb2
  have HBa := hide hBa
  have HBb := hide hBb
  have HOB := hide hOB
  clear hg1' hg2' hsz hg1s hg2s hbb hbb2 hBa hBb hOA hOB yl yl2 fz1 fz2 f1 f2 hgl5 hgl6 HF HG1 HG2 HBB HB1 HB2 q1 q2 q3 q4 y0 y1 y2 y3 y4 y5 y6 y7 y8 y9 y10 y11 y12
  go_wp2_with (first
    | refine wpList_load_row rfl 33 (.tmp 3) rfl w.heap.size rfl _ _ _ _ (unhide HG1s) Try.underlying33 rfl (by kernel_rfl) ?_
    | refine wpList_store_row rfl 33 (.tmp 6) (.tmp 67) rfl (w.heap.size + 1) _ rfl rfl _ _ (unhide HG2s) (by kernel_rfl) (unhide HZ) (rl_one ..) ?_)
  refine bodyPost_ret (results_ct rfl _ _ _ _ _ _ _ rfl (setRow_heap _ _ _ _ _ _ (unhide HG2s)) Try.underlying33 rfl (by kernel_rfl)) rfl ?_
  exact ⟨ra, rb, rd, rfl, (unhide HBa).kept fun k' hk' _ => setRow_other _ _ _ _ (by have := (unhide HOA k' hk').1; omega), (unhide HBb).kept fun k' hk' _ => setRow_other _ _ _ _ (by have := unhide HOB k' hk'; omega), fun k' hk' => by have := (unhide HOA k' hk').1; omega, fun k' hk' => by have := unhide HOB k' hk'; omega, below_setRow (unhide HB3) (by omega) _⟩

end
end Go.Proofs.Ytbpjlkjokafdnaa
