/- What the functions of the document's own disk (foremanref01) do: Read, Head, Fuse. No statement of the seat is proved here. -/
import Derived.Test.YtoabpjdpdcpdlaaRef4
namespace Go.Proofs.Ytoabpjdpdcpdlaa
open Go.RowKit

/-- A struct in a cell is handed back. -/
theorem results_c {P : Program} {fn : Func} {p : Tmp} {ty : TypeId} (h : fn.results = #[.cell p ty]) (tmps : Array Value) (w : World) (g : Nat) (t : TypeId) (cs : Array Value) (fr : Nat × Nat) (d : TypeDesc)
    (hp : tmps.getD p undef = .pointer (some ⟨g, 0, none⟩)) (hg : w.heap[g]? = some (.cells cs t fr))
    (hu : P.underlying ty = some d) (hd : (match d with | .struct _ | .array _ _ => true | _ => false) = true) (hi : (P.info? ty).map (·.size) = some cs.size) :
    (results fn tmps).run P w = .ok (.agg cs) w := results_cell_row h tmps w g t cs fr d hp hg hu hd hi

section
variable (c : Int) (P : Nat → Option Addr) (N C : Nat → Nat) (h : Bool) (n k : Int) (d : Bool) (w : World)

set_option maxHeartbeats 2000000 in
theorem ref_read_dead (s : Int) : Calls Try.prog 49 #[.agg (rl c P N C h n k true), .int .i64 s] w fun e w' => e = .returned (.slice none 0 0) ∧ Below w.heap.size w w' := by
  unfold rl
  go_enter Try.func49, Try.ntmps49
  go_wp2
  go_ret
  exact ⟨rfl, (Below.refl _ w).alloc (Nat.le_refl _) _⟩

set_option maxHeartbeats 2000000 in
theorem ref_read_out (s : Int) (hs : s < 0 ∨ 2 ≤ s) : Calls Try.prog 49 #[.agg (rl c P N C h n k false), .int .i64 s] w fun e w' => e = .returned (.slice none 0 0) ∧ Below w.heap.size w w' := by
  unfold rl
  rcases hs with hs | hs
  · go_enter Try.func49, Try.ntmps49
    go_wp2
    go_ret
    exact ⟨rfl, (Below.refl _ w).alloc (Nat.le_refl _) _⟩
  · have h1 : ¬ s < 0 := by omega
    have h2 : s > 1 := by omega
    clear hs
    go_enter Try.func49, Try.ntmps49
    go_wp2
    go_ret
    exact ⟨rfl, (Below.refl _ w).alloc (Nat.le_refl _) _⟩

set_option maxHeartbeats 2000000 in
theorem ref_head_dead (s : Int) : Calls Try.prog 41 #[.agg (rl c P N C h n k true), .int .i64 s] w fun e w' => e = .returned (.slice none 0 0) ∧ Below w.heap.size w w' := by
  unfold rl
  go_enter Try.func41, Try.ntmps41
  go_wp2
  go_ret
  exact ⟨rfl, (Below.refl _ w).alloc (Nat.le_refl _) _⟩

set_option maxHeartbeats 2000000 in
theorem ref_head_out (s : Int) (hs : s < 0 ∨ 2 ≤ s) : Calls Try.prog 41 #[.agg (rl c P N C h n k false), .int .i64 s] w fun e w' => e = .returned (.slice none 0 0) ∧ Below w.heap.size w w' := by
  unfold rl
  rcases hs with hs | hs
  · go_enter Try.func41, Try.ntmps41
    go_wp2
    go_ret
    exact ⟨rfl, (Below.refl _ w).alloc (Nat.le_refl _) _⟩
  · have h1 : ¬ s < 0 := by omega
    have h2 : s > 1 := by omega
    clear hs
    go_enter Try.func41, Try.ntmps41
    go_wp2
    go_ret
    exact ⟨rfl, (Below.refl _ w).alloc (Nat.le_refl _) _⟩

set_option maxHeartbeats 2000000 in
theorem ref_read_at0 (x0 x1 : List UInt8) (h0 : Bytes w (.slice (P 0) (N 0) (C 0)) x0) (h1 : Bytes w (.slice (P 1) (N 1) (C 1)) x1) (hl : x0.length + x1.length ≤ 140737488355328) :
    Calls Try.prog 49 #[.agg (rl c P N C h n k false), .int .i64 0] w fun e w' => ∃ r, e = .returned r ∧ Fresh w w' r (x0 ++ x1) := by
  unfold rl
  have H0 := hide h0
  have H1 := hide h1
  have HL := hide hl
  clear h0 h1 hl
  go_enter Try.func49, Try.ntmps49
  go_wp2_with fail
  refine (all_at0 c P N C h n k false _ x0 x1 ((unhide H0).alloc _) ((unhide H1).alloc _) (unhide HL)).mono ?_
  rintro e w2 ⟨r, rfl, hF⟩
  have HF := hide (fresh_from ((Below.refl _ w).alloc (Nat.le_refl _) _) hF)
  clear hF
  go_wp2
  go_ret
  exact ⟨r, rfl, unhide HF⟩

set_option maxHeartbeats 2000000 in
theorem ref_head_loose0 (hn : 0 < N 5) : Calls Try.prog 41 #[.agg (rl c P N C h n k false), .int .i64 0] w fun e w' => e = .returned (.slice (P 5) (N 5) (C 5)) ∧ Below w.heap.size w w' := by
  unfold rl
  have hn' : (N 5 : Int) > 0 := by omega
  clear hn
  go_enter Try.func41, Try.ntmps41
  go_wp2
  go_ret
  exact ⟨rfl, (Below.refl _ w).alloc (Nat.le_refl _) _⟩

set_option maxHeartbeats 2000000 in
theorem ref_head_safe0 (hn : N 5 = 0) : Calls Try.prog 41 #[.agg (rl c P N C h n k false), .int .i64 0] w fun e w' => e = .returned (.slice (P 4) (N 4) (C 4)) ∧ Below w.heap.size w w' := by
  unfold rl
  rw [hn]
  go_enter Try.func41, Try.ntmps41
  go_wp2
  go_ret
  exact ⟨rfl, (Below.refl _ w).alloc (Nat.le_refl _) _⟩

set_option maxHeartbeats 2000000 in
theorem ref_read_at1 (x0 x1 : List UInt8) (h0 : Bytes w (.slice (P 2) (N 2) (C 2)) x0) (h1 : Bytes w (.slice (P 3) (N 3) (C 3)) x1) (hl : x0.length + x1.length ≤ 140737488355328) :
    Calls Try.prog 49 #[.agg (rl c P N C h n k false), .int .i64 1] w fun e w' => ∃ r, e = .returned r ∧ Fresh w w' r (x0 ++ x1) := by
  unfold rl
  have H0 := hide h0
  have H1 := hide h1
  have HL := hide hl
  clear h0 h1 hl
  go_enter Try.func49, Try.ntmps49
  go_wp2_with fail
  refine (all_at1 c P N C h n k false _ x0 x1 ((unhide H0).alloc _) ((unhide H1).alloc _) (unhide HL)).mono ?_
  rintro e w2 ⟨r, rfl, hF⟩
  have HF := hide (fresh_from ((Below.refl _ w).alloc (Nat.le_refl _) _) hF)
  clear hF
  go_wp2
  go_ret
  exact ⟨r, rfl, unhide HF⟩

set_option maxHeartbeats 2000000 in
theorem ref_head_loose1 (hn : 0 < N 7) : Calls Try.prog 41 #[.agg (rl c P N C h n k false), .int .i64 1] w fun e w' => e = .returned (.slice (P 7) (N 7) (C 7)) ∧ Below w.heap.size w w' := by
  unfold rl
  have hn' : (N 7 : Int) > 0 := by omega
  clear hn
  go_enter Try.func41, Try.ntmps41
  go_wp2
  go_ret
  exact ⟨rfl, (Below.refl _ w).alloc (Nat.le_refl _) _⟩

set_option maxHeartbeats 2000000 in
theorem ref_head_safe1 (hn : N 7 = 0) : Calls Try.prog 41 #[.agg (rl c P N C h n k false), .int .i64 1] w fun e w' => e = .returned (.slice (P 6) (N 6) (C 6)) ∧ Below w.heap.size w w' := by
  unfold rl
  rw [hn]
  go_enter Try.func41, Try.ntmps41
  go_wp2
  go_ret
  exact ⟨rfl, (Below.refl _ w).alloc (Nat.le_refl _) _⟩

set_option maxHeartbeats 2000000 in
theorem ref_fuse_dead (a b : Int) : Calls Try.prog 26 #[.agg (rl c P N C h n k true), .int .i64 a, .int .i64 b] w fun e w' => e = .returned (.agg (rl c P N C h n k true)) ∧ Below w.heap.size w w' := by
  unfold rl
  go_enter Try.func26, Try.ntmps26
  go_wp2
  refine bodyPost_ret (results_c rfl _ _ _ _ _ _ _ rfl (heap_last _ _ _ (by simp)) Try.underlying43 rfl (by kernel_rfl)) rfl ?_
  exact ⟨rfl, ((Below.refl _ w).alloc (Nat.le_refl _) _).alloc (by simp) _⟩

set_option maxHeartbeats 2000000 in
theorem ref_fuse (a b : Int) : Calls Try.prog 26 #[.agg (rl c P N C h n k false), .int .i64 a, .int .i64 b] w fun e w' => e = .returned (.agg (rl c P N C (decide (0 ≤ a)) a (max b 0) false)) ∧ Below w.heap.size w w' := by
  unfold rl
  by_cases ha : 0 ≤ a <;> by_cases hb : b < 0
  · rw [show max b 0 = 0 by omega, decide_eq_true ha]
    go_enter Try.func26, Try.ntmps26
    go_wp2
    refine bodyPost_ret (results_c rfl _ _ _ _ _ _ _ rfl (heap_last _ _ _ (by simp)) Try.underlying43 rfl (by kernel_rfl)) rfl ?_
    exact ⟨rfl, ((Below.refl _ w).alloc (Nat.le_refl _) _).alloc (by simp) _⟩
  · rw [show max b 0 = b by omega, decide_eq_true ha]
    go_enter Try.func26, Try.ntmps26
    go_wp2
    refine bodyPost_ret (results_c rfl _ _ _ _ _ _ _ rfl (heap_last _ _ _ (by simp)) Try.underlying43 rfl (by kernel_rfl)) rfl ?_
    exact ⟨rfl, ((Below.refl _ w).alloc (Nat.le_refl _) _).alloc (by simp) _⟩
  · rw [show max b 0 = 0 by omega, decide_eq_false ha]
    go_enter Try.func26, Try.ntmps26
    go_wp2
    refine bodyPost_ret (results_c rfl _ _ _ _ _ _ _ rfl (heap_last _ _ _ (by simp)) Try.underlying43 rfl (by kernel_rfl)) rfl ?_
    exact ⟨rfl, ((Below.refl _ w).alloc (Nat.le_refl _) _).alloc (by simp) _⟩
  · rw [show max b 0 = b by omega, decide_eq_false ha]
    go_enter Try.func26, Try.ntmps26
    go_wp2
    refine bodyPost_ret (results_c rfl _ _ _ _ _ _ _ rfl (heap_last _ _ _ (by simp)) Try.underlying43 rfl (by kernel_rfl)) rfl ?_
    exact ⟨rfl, ((Below.refl _ w).alloc (Nat.le_refl _) _).alloc (by simp) _⟩
end
end Go.Proofs.Ytoabpjdpdcpdlaa
