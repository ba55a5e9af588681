/- What the calls of package disk answer of a disk that is nil, or that New did not make; and the walk of the statement's function over them. -/
import Derived.Test.YtbpjlkjokafdnabAwake
namespace Go.Proofs.Ytbpjlkjokafdnab
open Go.RowKit

/-- No disk: nil, or one that does not point at itself, but nowhere. -/
def NoDisk (w : World) (q : Value) : Prop := q = .pointer none ∨ ∃ b, q = .pointer (some ⟨b, 0, none⟩) ∧ w.cell? ⟨b, 0, none⟩ = some (.pointer none)

theorem NoDisk.kept {w w' : World} {q : Value} (h : NoDisk w q) {B : Nat} (hb : Below B w w') (hB : w.heap.size ≤ B) : NoDisk w' q := by
  rcases h with h | ⟨b, h, hc⟩
  · exact .inl h
  · exact .inr ⟨b, h, by rw [hb.cell (p := ⟨b, 0, none⟩) (Nat.lt_of_lt_of_le (World.block_lt_of_cell? w _ hc) hB)]; exact hc⟩

theorem NoDisk.alloc {w : World} {q : Value} (h : NoDisk w q) (o : Obj) : NoDisk (w.alloc o) q := h.kept ((Below.refl w.heap.size w).alloc (Nat.le_refl _) o) (Nat.le_refl _)

theorem run_eql_nil_ptr {P : Program} (w : World) {t e : TypeId} (a : Addr) (ht : P.underlying t = some (.pointer e)) : (binOp .eql t (.pointer none) (.pointer (some a))).run P w = .ok (.bool false) w := by
  have h : ∀ d : Nat, (Op.equalIn (d + 1) t (.pointer none) (.pointer (some a))).run P w = .ok false w := fun d => by
    simp [Op.equalIn, run_underlying ht]
  simp only [binOp]
  simp [Op.equal, Op.maxDepth, h 9999]

section
variable {w : World} {q : Value}

set_option maxHeartbeats 400000 in
theorem made_not (h : NoDisk w q) : Calls Try.prog 17 #[q] w fun e w' => e = .returned (.bool false) ∧ w' = w := by
  rcases h with rfl | ⟨b, rfl, hc⟩
  · go_enter Try.func17, Try.ntmps17
    go_wp2
    go_ret
    exact ⟨rfl, rfl⟩
  · have he := run_eql_nil_ptr (P := Try.prog) w ⟨b, 0, none⟩ Try.underlying24
    go_enter Try.func17, Try.ntmps17
    go_wp2
    go_ret
    exact ⟨rfl, rfl⟩

set_option maxHeartbeats 400000 in
theorem fault_nil (h : NoDisk w q) : Calls Try.prog 16 #[q] w fun e w' => e = .returned (.int .i64 1) ∧ w' = w := by
  have HD := hide h
  clear h
  go_enter Try.func16, Try.ntmps16
  go_wp2_with (go_at_call 17; refine (made_not (unhide HD)).mono ?_; rintro e w' ⟨rfl, rfl⟩)
  go_ret
  exact ⟨rfl, rfl⟩

set_option maxHeartbeats 400000 in
theorem fuse_nil (h : NoDisk w q) (c k : Int) : Calls Try.prog 4 #[q, .int .i64 c, .int .i64 k] w fun e w' => e = .returned (.tuple #[]) ∧ w' = w := by
  obtain ⟨a0, hq⟩ : ∃ a0, q = .pointer a0 := by
    rcases h with h | ⟨b, h, _⟩
    · exact ⟨_, h⟩
    · exact ⟨_, h⟩
  have HD := hide h
  clear h
  subst hq
  go_enter Try.func4, Try.ntmps4
  go_wp2_with (go_at_call 16; refine (fault_nil (unhide HD)).mono ?_; rintro e w' ⟨rfl, rfl⟩)
  first | go_end0 | (refine bodyPost_ret (v := .tuple #[]) (by simp [results, Try.results4, go_sem]) rfl ?_)
  exact ⟨rfl, rfl⟩

set_option maxHeartbeats 400000 in
theorem crash_nil (h : NoDisk w q) (a b c d : Int) : Calls Try.prog 5 #[q, .agg #[.int .i64 a, .int .i64 b, .int .i64 c, .int .i64 d]] w fun e w' => e = .returned (.tuple #[]) ∧ Below w.heap.size w w' := by
  obtain ⟨a0, hq⟩ : ∃ a0, q = .pointer a0 := by
    rcases h with h | ⟨b, h, _⟩
    · exact ⟨_, h⟩
    · exact ⟨_, h⟩
  have HD := hide h
  clear h
  subst hq
  go_enter Try.func5, Try.ntmps5
  go_wp2_with (go_at_call 17; refine (made_not ((unhide HD).alloc _)).mono ?_; rintro e w' ⟨rfl, rfl⟩)
  first | go_end0 | (refine bodyPost_ret (v := .tuple #[]) (by simp [results, Try.results5, go_sem]) rfl ?_)
  exact ⟨rfl, ((Below.refl _ _).alloc (by simp) _)⟩

set_option maxHeartbeats 400000 in
theorem append_nil (h : NoDisk w q) (s : Int) (a : Option Addr) (n c : Nat) : Calls Try.prog 6 #[q, .int .i64 s, .slice a n c] w fun e w' => e = .returned (.int .i64 1) ∧ Below w.heap.size w w' := by
  obtain ⟨a0, hq⟩ : ∃ a0, q = .pointer a0 := by
    rcases h with h | ⟨b, h, _⟩
    · exact ⟨_, h⟩
    · exact ⟨_, h⟩
  have HD := hide h
  clear h
  subst hq
  go_enter Try.func6, Try.ntmps6
  go_wp2_with (go_at_call 16; refine (fault_nil ((unhide HD).alloc _)).mono ?_; rintro e w' ⟨rfl, rfl⟩)
  go_ret
  exact ⟨rfl, ((Below.refl _ _).alloc (by simp) _)⟩

set_option maxHeartbeats 400000 in
theorem sync_nil (h : NoDisk w q) (s : Int) : Calls Try.prog 7 #[q, .int .i64 s] w fun e w' => e = .returned (.int .i64 1) ∧ Below w.heap.size w w' := by
  obtain ⟨a0, hq⟩ : ∃ a0, q = .pointer a0 := by
    rcases h with h | ⟨b, h, _⟩
    · exact ⟨_, h⟩
    · exact ⟨_, h⟩
  have HD := hide h
  clear h
  subst hq
  go_enter Try.func7, Try.ntmps7
  go_wp2_with (go_at_call 16; refine (fault_nil (((unhide HD).alloc _).alloc _)).mono ?_; rintro e w' ⟨rfl, rfl⟩)
  go_ret
  exact ⟨rfl, (((Below.refl _ _).alloc (by simp) _).alloc (by simp) _)⟩

set_option maxHeartbeats 400000 in
theorem truncate_nil (h : NoDisk w q) (s n : Int) : Calls Try.prog 8 #[q, .int .i64 s, .int .i64 n] w fun e w' => e = .returned (.int .i64 1) ∧ Below w.heap.size w w' := by
  obtain ⟨a0, hq⟩ : ∃ a0, q = .pointer a0 := by
    rcases h with h | ⟨b, h, _⟩
    · exact ⟨_, h⟩
    · exact ⟨_, h⟩
  have HD := hide h
  clear h
  subst hq
  go_enter Try.func8, Try.ntmps8
  go_wp2_with (go_at_call 16; refine (fault_nil ((((unhide HD).alloc _).alloc _).alloc _)).mono ?_; rintro e w' ⟨rfl, rfl⟩)
  go_ret
  exact ⟨rfl, ((((Below.refl _ _).alloc (by simp) _).alloc (by simp) _).alloc (by simp; omega) _)⟩

set_option maxHeartbeats 400000 in
theorem write_nil (h : NoDisk w q) (s : Int) (a : Option Addr) (n c : Nat) : Calls Try.prog 9 #[q, .int .i64 s, .slice a n c] w fun e w' => e = .returned (.int .i64 1) ∧ Below w.heap.size w w' := by
  obtain ⟨a0, hq⟩ : ∃ a0, q = .pointer a0 := by
    rcases h with h | ⟨b, h, _⟩
    · exact ⟨_, h⟩
    · exact ⟨_, h⟩
  have HD := hide h
  clear h
  subst hq
  go_enter Try.func9, Try.ntmps9
  go_wp2_with (go_at_call 16; refine (fault_nil ((((unhide HD).alloc _).alloc _).alloc _)).mono ?_; rintro e w' ⟨rfl, rfl⟩)
  go_ret
  exact ⟨rfl, ((((Below.refl _ _).alloc (by simp) _).alloc (by simp) _).alloc (by simp; omega) _)⟩

set_option maxHeartbeats 400000 in
theorem syncHead_nil (h : NoDisk w q) : Calls Try.prog 10 #[q] w fun e w' => e = .returned (.int .i64 1) ∧ Below w.heap.size w w' := by
  obtain ⟨a0, hq⟩ : ∃ a0, q = .pointer a0 := by
    rcases h with h | ⟨b, h, _⟩
    · exact ⟨_, h⟩
    · exact ⟨_, h⟩
  have HD := hide h
  clear h
  subst hq
  go_enter Try.func10, Try.ntmps10
  go_wp2_with (go_at_call 16; refine (fault_nil ((unhide HD).alloc _)).mono ?_; rintro e w' ⟨rfl, rfl⟩)
  go_ret
  exact ⟨rfl, ((Below.refl _ _).alloc (by simp) _)⟩

set_option maxHeartbeats 400000 in
theorem read_nil (h : NoDisk w q) (s : Int) : Calls Try.prog 11 #[q, .int .i64 s] w fun e w' => e = .returned (.slice none 0 0) ∧ w' = w := by
  obtain ⟨a0, hq⟩ : ∃ a0, q = .pointer a0 := by
    rcases h with h | ⟨b, h, _⟩
    · exact ⟨_, h⟩
    · exact ⟨_, h⟩
  have HD := hide h
  clear h
  subst hq
  go_enter Try.func11, Try.ntmps11
  go_wp2_with (go_at_call 16; refine (fault_nil (unhide HD)).mono ?_; rintro e w' ⟨rfl, rfl⟩)
  go_ret
  exact ⟨rfl, rfl⟩

set_option maxHeartbeats 400000 in
theorem head_nil (h : NoDisk w q) (s : Int) : Calls Try.prog 12 #[q, .int .i64 s] w fun e w' => e = .returned (.slice none 0 0) ∧ w' = w := by
  obtain ⟨a0, hq⟩ : ∃ a0, q = .pointer a0 := by
    rcases h with h | ⟨b, h, _⟩
    · exact ⟨_, h⟩
    · exact ⟨_, h⟩
  have HD := hide h
  clear h
  subst hq
  go_enter Try.func12, Try.ntmps12
  go_wp2_with (go_at_call 16; refine (fault_nil (unhide HD)).mono ?_; rintro e w' ⟨rfl, rfl⟩)
  go_ret
  exact ⟨rfl, rfl⟩

set_option maxHeartbeats 400000 in
theorem free_nil (h : NoDisk w q) : Calls Try.prog 13 #[q] w fun e w' => e = .returned (.int .i64 0) ∧ w' = w := by
  obtain ⟨a0, hq⟩ : ∃ a0, q = .pointer a0 := by
    rcases h with h | ⟨b, h, _⟩
    · exact ⟨_, h⟩
    · exact ⟨_, h⟩
  have HD := hide h
  clear h
  subst hq
  go_enter Try.func13, Try.ntmps13
  go_wp2_with (go_at_call 16; refine (fault_nil (unhide HD)).mono ?_; rintro e w' ⟨rfl, rfl⟩)
  go_ret
  exact ⟨rfl, rfl⟩

set_option maxHeartbeats 400000 in
theorem dead_nil (h : NoDisk w q) : Calls Try.prog 14 #[q] w fun e w' => e = .returned (.bool false) ∧ w' = w := by
  obtain ⟨a0, hq⟩ : ∃ a0, q = .pointer a0 := by
    rcases h with h | ⟨b, h, _⟩
    · exact ⟨_, h⟩
    · exact ⟨_, h⟩
  have HD := hide h
  clear h
  subst hq
  go_enter Try.func14, Try.ntmps14
  go_wp2_with (go_at_call 16; refine (fault_nil (unhide HD)).mono ?_; rintro e w' ⟨rfl, rfl⟩)
  go_ret
  exact ⟨rfl, rfl⟩

theorem zeroDisk_none (w : World) : NoDisk (w.alloc (.cells zDisk 35)) (.pointer (some ⟨w.heap.size, 0, none⟩)) :=
  .inr ⟨w.heap.size, rfl, by rw [cell_of_row _ _ 0 _ _ _ (heap_alloc_new w _)]; kernel_rfl⟩

/-- What the law's walk keeps: the four numbers, the two pointers, and that the second is no disk. -/
structure Ctx (w : World) (k0 k1 k2 k3 : Int) (W : World) : Prop where
  c0 : W.cell? ⟨w.heap.size, 0, none⟩ = some (.int .i64 k0)
  c1 : W.cell? ⟨w.heap.size, 1, none⟩ = some (.int .i64 k1)
  c2 : W.cell? ⟨w.heap.size, 2, none⟩ = some (.int .i64 k2)
  c3 : W.cell? ⟨w.heap.size, 3, none⟩ = some (.int .i64 k3)
  p0 : W.cell? ⟨w.heap.size + 1 + 1, 0, none⟩ = some (.pointer none)
  p1 : W.cell? ⟨w.heap.size + 1 + 1, 1, none⟩ = some (.pointer (some ⟨w.heap.size + 1, 0, none⟩))
  nd : NoDisk W (.pointer (some ⟨w.heap.size + 1, 0, none⟩))
  b : Below w.heap.size w W

theorem Ctx.kept {w W W' : World} {k0 k1 k2 k3 : Int} (h : Ctx w k0 k1 k2 k3 W) (hb : Below W.heap.size W W') : Ctx w k0 k1 k2 k3 W' := by
  have hc : ∀ p v, W.cell? p = some v → W'.cell? p = some v := fun p v hv => by rw [hb.cell (World.block_lt_of_cell? W p hv)]; exact hv
  exact ⟨hc _ _ h.c0, hc _ _ h.c1, hc _ _ h.c2, hc _ _ h.c3, hc _ _ h.p0, hc _ _ h.p1, h.nd.kept hb (Nat.le_refl _), h.b.trans (hb.mono h.b.size)⟩

theorem ctx_start (w : World) (k0 k1 k2 k3 : Int) (t s : TypeId) : Ctx w k0 k1 k2 k3 (((w.alloc (.cells #[.int .i64 k0, .int .i64 k1, .int .i64 k2, .int .i64 k3] t)).alloc (.cells zDisk 35)).alloc (.cells #[.pointer none, .pointer (some ⟨w.heap.size + 1, 0, none⟩)] s)) := by
  have h1 : (((w.alloc (.cells #[.int .i64 k0, .int .i64 k1, .int .i64 k2, .int .i64 k3] t)).alloc (.cells zDisk 35)).alloc (.cells #[.pointer none, .pointer (some ⟨w.heap.size + 1, 0, none⟩)] s)).heap[w.heap.size]? = some (.cells #[.int .i64 k0, .int .i64 k1, .int .i64 k2, .int .i64 k3] t (0, 0)) := by
    rw [Below.heap_alloc _ _ _ (by simp; omega), Below.heap_alloc _ _ _ (by simp)]; exact heap_alloc_new w _
  have h3 : (((w.alloc (.cells #[.int .i64 k0, .int .i64 k1, .int .i64 k2, .int .i64 k3] t)).alloc (.cells zDisk 35)).alloc (.cells #[.pointer none, .pointer (some ⟨w.heap.size + 1, 0, none⟩)] s)).heap[w.heap.size + 1 + 1]? = some (.cells #[.pointer none, .pointer (some ⟨w.heap.size + 1, 0, none⟩)] s (0, 0)) := by
    have := heap_alloc_new ((w.alloc (.cells #[.int .i64 k0, .int .i64 k1, .int .i64 k2, .int .i64 k3] t)).alloc (.cells zDisk 35)) (.cells #[.pointer none, .pointer (some ⟨w.heap.size + 1, 0, none⟩)] s)
    have e : ((w.alloc (.cells #[.int .i64 k0, .int .i64 k1, .int .i64 k2, .int .i64 k3] t)).alloc (.cells zDisk 35)).heap.size = w.heap.size + 1 + 1 := by simp
    rw [e] at this; exact this
  have hz := (zeroDisk_none (w.alloc (.cells #[.int .i64 k0, .int .i64 k1, .int .i64 k2, .int .i64 k3] t))).alloc (.cells #[.pointer none, .pointer (some ⟨w.heap.size + 1, 0, none⟩)] s)
  have e : (w.alloc (.cells #[.int .i64 k0, .int .i64 k1, .int .i64 k2, .int .i64 k3] t)).heap.size = w.heap.size + 1 := by simp
  rw [e] at hz
  exact ⟨cell_of_row _ _ 0 _ _ _ h1, cell_of_row _ _ 1 _ _ _ h1, cell_of_row _ _ 2 _ _ _ h1, cell_of_row _ _ 3 _ _ _ h1, cell_of_row _ _ 0 _ _ _ h3, cell_of_row _ _ 1 _ _ _ h3, hz,
    (((Below.refl _ _).alloc (Nat.le_refl _) _).alloc (by simp) _).alloc (by simp; omega) _⟩

set_option maxRecDepth 100000 in
set_option maxHeartbeats 4000000 in
theorem diskNone_any (s : Int) (a : Option Addr) (n c : Nat) (hnc : n ≤ c) (k0 k1 k2 k3 : Int) (w : World) :
    Calls Try.prog 3 #[.int .i64 s, .slice a n c, .agg #[.int .i64 k0, .int .i64 k1, .int .i64 k2, .int .i64 k3]] w fun e w' => e = .returned (.bool true) ∧ Below w.heap.size w w' := by
  have hz := run_zeroDisk
  have HC0 := hide (ctx_start w k0 k1 k2 k3 23 24)
  go_enter Try.func3, Try.ntmps3
  go_wp2_with fail
  all_goals
    clear hz
    refine wp_loop_rounds 3 ?_
    rw [rounds_succ]
    have y0 := (unhide HC0).p0
    have y1 := (unhide HC0).p1
    have u0 := (unhide HC0).c0
    have u1 := (unhide HC0).c1
    have u2 := (unhide HC0).c2
    have u3 := (unhide HC0).c3
    go_wp2_with fail
    refine (fuse_nil (.inl rfl) 1 1).mono ?_
    rintro e W' ⟨rfl, hw⟩
    subst hw
    go_wp2_with fail
    refine (crash_nil (.inl rfl) k0 k1 k2 k3).mono ?_
    rintro e W1 ⟨rfl, hb⟩
    have HC1 := hide ((unhide HC0).kept hb)
    clear hb HC0
    clear y0 y1 u0 u1 u2 u3
    go_wp2_with fail
    refine (append_nil (.inl rfl) _ _ _ _).mono ?_
    rintro e W2 ⟨rfl, hb⟩
    have HC2 := hide ((unhide HC1).kept hb)
    clear hb HC1
    go_wp2_with fail
    refine (sync_nil (.inl rfl) _).mono ?_
    rintro e W3 ⟨rfl, hb⟩
    have HC3 := hide ((unhide HC2).kept hb)
    clear hb HC2
    go_wp2_with fail
    refine (truncate_nil (.inl rfl) _ _).mono ?_
    rintro e W4 ⟨rfl, hb⟩
    have HC4 := hide ((unhide HC3).kept hb)
    clear hb HC3
    go_wp2_with fail
    refine (write_nil (.inl rfl) _ _ _ _).mono ?_
    rintro e W5 ⟨rfl, hb⟩
    have HC5 := hide ((unhide HC4).kept hb)
    clear hb HC4
    go_wp2_with fail
    refine (syncHead_nil (.inl rfl)).mono ?_
    rintro e W6 ⟨rfl, hb⟩
    have HC6 := hide ((unhide HC5).kept hb)
    clear hb HC5
    go_wp2_with fail
    have HC7 := hide ((unhide HC6).kept ((Below.refl _ _).alloc (Nat.le_refl _) (.cells #[.int .i64 1, .int .i64 1, .int .i64 1, .int .i64 1, .int .i64 1] 39)))
    clear HC6
    refine wp_loop_rounds 6 ?_
    rw [rounds_succ]; go_wp2_with fail
    rw [rounds_succ]; go_wp2_with fail
    rw [rounds_succ]; go_wp2_with fail
    rw [rounds_succ]; go_wp2_with fail
    rw [rounds_succ]; go_wp2_with fail
    rw [rounds_succ]; go_wp2_with fail
    refine (read_nil (.inl rfl) _).mono ?_
    rintro e W' ⟨rfl, hw⟩
    subst hw
    go_wp2_with fail
    refine (head_nil (.inl rfl) _).mono ?_
    rintro e W' ⟨rfl, hw⟩
    subst hw
    go_wp2_with fail
    refine (free_nil (.inl rfl)).mono ?_
    rintro e W' ⟨rfl, hw⟩
    subst hw
    go_wp2_with fail
    refine (dead_nil (.inl rfl)).mono ?_
    rintro e W' ⟨rfl, hw⟩
    subst hw
    go_wp2_with fail
    rw [rounds_succ]
    have y0 := (unhide HC7).p0
    have y1 := (unhide HC7).p1
    have u0 := (unhide HC7).c0
    have u1 := (unhide HC7).c1
    have u2 := (unhide HC7).c2
    have u3 := (unhide HC7).c3
    go_wp2_with fail
    refine (fuse_nil (unhide HC7).nd 1 1).mono ?_
    rintro e W' ⟨rfl, hw⟩
    subst hw
    go_wp2_with fail
    refine (crash_nil (unhide HC7).nd k0 k1 k2 k3).mono ?_
    rintro e W101 ⟨rfl, hb⟩
    have HC101 := hide ((unhide HC7).kept hb)
    clear hb HC7
    clear y0 y1 u0 u1 u2 u3
    go_wp2_with fail
    refine (append_nil (unhide HC101).nd _ _ _ _).mono ?_
    rintro e W102 ⟨rfl, hb⟩
    have HC102 := hide ((unhide HC101).kept hb)
    clear hb HC101
    go_wp2_with fail
    refine (sync_nil (unhide HC102).nd _).mono ?_
    rintro e W103 ⟨rfl, hb⟩
    have HC103 := hide ((unhide HC102).kept hb)
    clear hb HC102
    go_wp2_with fail
    refine (truncate_nil (unhide HC103).nd _ _).mono ?_
    rintro e W104 ⟨rfl, hb⟩
    have HC104 := hide ((unhide HC103).kept hb)
    clear hb HC103
    go_wp2_with fail
    refine (write_nil (unhide HC104).nd _ _ _ _).mono ?_
    rintro e W105 ⟨rfl, hb⟩
    have HC105 := hide ((unhide HC104).kept hb)
    clear hb HC104
    go_wp2_with fail
    refine (syncHead_nil (unhide HC105).nd).mono ?_
    rintro e W106 ⟨rfl, hb⟩
    have HC106 := hide ((unhide HC105).kept hb)
    clear hb HC105
    go_wp2_with fail
    have HC107 := hide ((unhide HC106).kept ((Below.refl _ _).alloc (Nat.le_refl _) (.cells #[.int .i64 1, .int .i64 1, .int .i64 1, .int .i64 1, .int .i64 1] 39)))
    clear HC106
    refine wp_loop_rounds 6 ?_
    rw [rounds_succ]; go_wp2_with fail
    rw [rounds_succ]; go_wp2_with fail
    rw [rounds_succ]; go_wp2_with fail
    rw [rounds_succ]; go_wp2_with fail
    rw [rounds_succ]; go_wp2_with fail
    rw [rounds_succ]; go_wp2_with fail
    refine (read_nil (unhide HC107).nd _).mono ?_
    rintro e W' ⟨rfl, hw⟩
    subst hw
    go_wp2_with fail
    refine (head_nil (unhide HC107).nd _).mono ?_
    rintro e W' ⟨rfl, hw⟩
    subst hw
    go_wp2_with fail
    refine (free_nil (unhide HC107).nd).mono ?_
    rintro e W' ⟨rfl, hw⟩
    subst hw
    go_wp2_with fail
    refine (dead_nil (unhide HC107).nd).mono ?_
    rintro e W' ⟨rfl, hw⟩
    subst hw
    go_wp2_with fail
    rw [rounds_succ]; go_wp2_with fail
    refine (awake_any _).mono ?_
    rintro e W' ⟨rfl, hb⟩
    go_wp2
    go_ret
    exact ⟨rfl, (unhide HC107).b.trans (hb.mono (unhide HC107).b.size)⟩
end
end Go.Proofs.Ytbpjlkjokafdnab
