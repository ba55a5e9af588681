/- What the calls of package disk answer of a disk that is nil, or that New did not make; and the walk of the statement's function over them. -/
import Derived.Test.YtoabpjdpdcpdlaaAwake
namespace Go.Proofs.Ytoabpjdpdcpdlaa
open Go.RowKit

/-- No disk: nil, or one that does not point at itself, but nowhere. -/
def NoDisk (w : World) (q : Value) : Prop := q = .pointer none ∨ ∃ b, q = .pointer (some ⟨b, 0, none⟩) ∧ w.cell? ⟨b, 0, none⟩ = some (.pointer none)

theorem NoDisk.kept {w w' : World} {q : Value} (h : NoDisk w q) {B : Nat} (hb : Below B w w') (hB : w.heap.size ≤ B) : NoDisk w' q := by
  rcases h with h | ⟨b, h, hc⟩
  · exact .inl h
  · exact .inr ⟨b, h, by rw [hb.cell (p := ⟨b, 0, none⟩) (Nat.lt_of_lt_of_le (World.block_lt_of_cell? w _ hc) hB)]; exact hc⟩

theorem NoDisk.alloc {w : World} {q : Value} (h : NoDisk w q) (o : Obj) : NoDisk (w.alloc o) q := h.kept ((Below.refl w.heap.size w).alloc (Nat.le_refl _) o) (Nat.le_refl _)

theorem run_eql_nil_ptr {P : Program} (w : World) {t e : TypeId} (a : Addr) (ht : P.underlying t = some (.pointer e)) : (binOp .eql t (.pointer none) (.pointer (some a))).run P w = .ok (.bool false) w := by
  have h : ∀ d : Nat, (Op.equalIn (d + 1) t (.pointer none) (.pointer (some a))).run P w = .ok false w := fun d => by
    simp [Op.equalIn, run_underlying ht]
  simp only [binOp]
  simp [Op.equal, Op.maxDepth, h 9999]

section
variable {w : World} {q : Value}

set_option maxHeartbeats 400000 in
theorem made_not (h : NoDisk w q) : Calls Try.prog 43 #[q] w fun e w' => e = .returned (.bool false) ∧ w' = w := by
  rcases h with rfl | ⟨b, rfl, hc⟩
  · go_enter Try.func43, Try.ntmps43
    go_wp2
    go_ret
    exact ⟨rfl, rfl⟩
  · have he := run_eql_nil_ptr (P := Try.prog) w ⟨b, 0, none⟩ Try.underlying36
    go_enter Try.func43, Try.ntmps43
    go_wp2
    go_ret
    exact ⟨rfl, rfl⟩

set_option maxHeartbeats 400000 in
theorem fault_nil (h : NoDisk w q) : Calls Try.prog 42 #[q] w fun e w' => e = .returned (.int .i64 1) ∧ w' = w := by
  have HD := hide h
  clear h
  go_enter Try.func42, Try.ntmps42
  go_wp2_with (go_at_call 43; refine (made_not (unhide HD)).mono ?_; rintro e w' ⟨rfl, rfl⟩)
  go_ret
  exact ⟨rfl, rfl⟩

set_option maxHeartbeats 400000 in
theorem fuse_nil (h : NoDisk w q) (c k : Int) : Calls Try.prog 25 #[q, .int .i64 c, .int .i64 k] w fun e w' => e = .returned (.tuple #[]) ∧ w' = w := by
  obtain ⟨a0, hq⟩ : ∃ a0, q = .pointer a0 := by
    rcases h with h | ⟨b, h, _⟩
    · exact ⟨_, h⟩
    · exact ⟨_, h⟩
  have HD := hide h
  clear h
  subst hq
  go_enter Try.func25, Try.ntmps25
  go_wp2_with (go_at_call 42; refine (fault_nil (unhide HD)).mono ?_; rintro e w' ⟨rfl, rfl⟩)
  first | go_end0 | (refine bodyPost_ret (v := .tuple #[]) (by simp [results, Try.results25, go_sem]) rfl ?_)
  exact ⟨rfl, rfl⟩

set_option maxHeartbeats 400000 in
theorem crash_nil (h : NoDisk w q) (a b c d : Int) : Calls Try.prog 27 #[q, .agg #[.int .i64 a, .int .i64 b, .int .i64 c, .int .i64 d]] w fun e w' => e = .returned (.tuple #[]) ∧ Below w.heap.size w w' := by
  obtain ⟨a0, hq⟩ : ∃ a0, q = .pointer a0 := by
    rcases h with h | ⟨b, h, _⟩
    · exact ⟨_, h⟩
    · exact ⟨_, h⟩
  have HD := hide h
  clear h
  subst hq
  go_enter Try.func27, Try.ntmps27
  go_wp2_with (go_at_call 43; refine (made_not ((unhide HD).alloc _)).mono ?_; rintro e w' ⟨rfl, rfl⟩)
  first | go_end0 | (refine bodyPost_ret (v := .tuple #[]) (by simp [results, Try.results27, go_sem]) rfl ?_)
  exact ⟨rfl, ((Below.refl _ _).alloc (by simp) _)⟩

set_option maxHeartbeats 400000 in
theorem write_nil (h : NoDisk w q) (s : Int) (a : Option Addr) (n c : Nat) : Calls Try.prog 31 #[q, .int .i64 s, .slice a n c] w fun e w' => e = .returned (.int .i64 1) ∧ Below w.heap.size w w' := by
  obtain ⟨a0, hq⟩ : ∃ a0, q = .pointer a0 := by
    rcases h with h | ⟨b, h, _⟩
    · exact ⟨_, h⟩
    · exact ⟨_, h⟩
  have HD := hide h
  clear h
  subst hq
  go_enter Try.func31, Try.ntmps31
  go_wp2_with (go_at_call 42; refine (fault_nil ((((unhide HD).alloc _).alloc _).alloc _)).mono ?_; rintro e w' ⟨rfl, rfl⟩)
  go_ret
  exact ⟨rfl, ((((Below.refl _ _).alloc (by simp) _).alloc (by simp) _).alloc (by simp; omega) _)⟩

set_option maxHeartbeats 400000 in
theorem syncHead_nil (h : NoDisk w q) : Calls Try.prog 32 #[q] w fun e w' => e = .returned (.int .i64 1) ∧ Below w.heap.size w w' := by
  obtain ⟨a0, hq⟩ : ∃ a0, q = .pointer a0 := by
    rcases h with h | ⟨b, h, _⟩
    · exact ⟨_, h⟩
    · exact ⟨_, h⟩
  have HD := hide h
  clear h
  subst hq
  go_enter Try.func32, Try.ntmps32
  go_wp2_with (go_at_call 42; refine (fault_nil ((unhide HD).alloc _)).mono ?_; rintro e w' ⟨rfl, rfl⟩)
  go_ret
  exact ⟨rfl, ((Below.refl _ _).alloc (by simp) _)⟩

set_option maxHeartbeats 400000 in
theorem read_nil (h : NoDisk w q) (s : Int) : Calls Try.prog 48 #[q, .int .i64 s] w fun e w' => e = .returned (.slice none 0 0) ∧ w' = w := by
  obtain ⟨a0, hq⟩ : ∃ a0, q = .pointer a0 := by
    rcases h with h | ⟨b, h, _⟩
    · exact ⟨_, h⟩
    · exact ⟨_, h⟩
  have HD := hide h
  clear h
  subst hq
  go_enter Try.func48, Try.ntmps48
  go_wp2_with (go_at_call 42; refine (fault_nil (unhide HD)).mono ?_; rintro e w' ⟨rfl, rfl⟩)
  go_ret
  exact ⟨rfl, rfl⟩

set_option maxHeartbeats 400000 in
theorem head_nil (h : NoDisk w q) (s : Int) : Calls Try.prog 30 #[q, .int .i64 s] w fun e w' => e = .returned (.slice none 0 0) ∧ w' = w := by
  obtain ⟨a0, hq⟩ : ∃ a0, q = .pointer a0 := by
    rcases h with h | ⟨b, h, _⟩
    · exact ⟨_, h⟩
    · exact ⟨_, h⟩
  have HD := hide h
  clear h
  subst hq
  go_enter Try.func30, Try.ntmps30
  go_wp2_with (go_at_call 42; refine (fault_nil (unhide HD)).mono ?_; rintro e w' ⟨rfl, rfl⟩)
  go_ret
  exact ⟨rfl, rfl⟩

set_option maxHeartbeats 400000 in
theorem free_nil (h : NoDisk w q) : Calls Try.prog 50 #[q] w fun e w' => e = .returned (.int .i64 0) ∧ w' = w := by
  obtain ⟨a0, hq⟩ : ∃ a0, q = .pointer a0 := by
    rcases h with h | ⟨b, h, _⟩
    · exact ⟨_, h⟩
    · exact ⟨_, h⟩
  have HD := hide h
  clear h
  subst hq
  go_enter Try.func50, Try.ntmps50
  go_wp2_with (go_at_call 42; refine (fault_nil (unhide HD)).mono ?_; rintro e w' ⟨rfl, rfl⟩)
  go_ret
  exact ⟨rfl, rfl⟩

set_option maxHeartbeats 400000 in
theorem dead_nil (h : NoDisk w q) : Calls Try.prog 40 #[q] w fun e w' => e = .returned (.bool false) ∧ w' = w := by
  obtain ⟨a0, hq⟩ : ∃ a0, q = .pointer a0 := by
    rcases h with h | ⟨b, h, _⟩
    · exact ⟨_, h⟩
    · exact ⟨_, h⟩
  have HD := hide h
  clear h
  subst hq
  go_enter Try.func40, Try.ntmps40
  go_wp2_with (go_at_call 42; refine (fault_nil (unhide HD)).mono ?_; rintro e w' ⟨rfl, rfl⟩)
  go_ret
  exact ⟨rfl, rfl⟩

theorem zeroDisk_none (w : World) : NoDisk (w.alloc (.cells zDisk 79)) (.pointer (some ⟨w.heap.size, 0, none⟩)) :=
  .inr ⟨w.heap.size, rfl, by rw [cell_of_row _ _ 0 _ _ _ (heap_alloc_new w _)]; kernel_rfl⟩

/-- What the law's walk keeps: the four numbers, the two pointers, and that the second is no disk. -/
structure Ctx (w : World) (k0 k1 k2 k3 : Int) (W : World) : Prop where
  c0 : W.cell? ⟨w.heap.size, 0, none⟩ = some (.int .i64 k0)
  c1 : W.cell? ⟨w.heap.size, 1, none⟩ = some (.int .i64 k1)
  c2 : W.cell? ⟨w.heap.size, 2, none⟩ = some (.int .i64 k2)
  c3 : W.cell? ⟨w.heap.size, 3, none⟩ = some (.int .i64 k3)
  p0 : W.cell? ⟨w.heap.size + 1 + 1, 0, none⟩ = some (.pointer none)
  p1 : W.cell? ⟨w.heap.size + 1 + 1, 1, none⟩ = some (.pointer (some ⟨w.heap.size + 1, 0, none⟩))
  nd : NoDisk W (.pointer (some ⟨w.heap.size + 1, 0, none⟩))
  b : Below w.heap.size w W

theorem Ctx.kept {w W W' : World} {k0 k1 k2 k3 : Int} (h : Ctx w k0 k1 k2 k3 W) (hb : Below W.heap.size W W') : Ctx w k0 k1 k2 k3 W' := by
  have hc : ∀ p v, W.cell? p = some v → W'.cell? p = some v := fun p v hv => by rw [hb.cell (World.block_lt_of_cell? W p hv)]; exact hv
  exact ⟨hc _ _ h.c0, hc _ _ h.c1, hc _ _ h.c2, hc _ _ h.c3, hc _ _ h.p0, hc _ _ h.p1, h.nd.kept hb (Nat.le_refl _), h.b.trans (hb.mono h.b.size)⟩

theorem ctx_start (w : World) (k0 k1 k2 k3 : Int) (t s : TypeId) : Ctx w k0 k1 k2 k3 (((w.alloc (.cells #[.int .i64 k0, .int .i64 k1, .int .i64 k2, .int .i64 k3] t)).alloc (.cells zDisk 79)).alloc (.cells #[.pointer none, .pointer (some ⟨w.heap.size + 1, 0, none⟩)] s)) := by
  have h1 : (((w.alloc (.cells #[.int .i64 k0, .int .i64 k1, .int .i64 k2, .int .i64 k3] t)).alloc (.cells zDisk 79)).alloc (.cells #[.pointer none, .pointer (some ⟨w.heap.size + 1, 0, none⟩)] s)).heap[w.heap.size]? = some (.cells #[.int .i64 k0, .int .i64 k1, .int .i64 k2, .int .i64 k3] t (0, 0)) := by
    rw [Below.heap_alloc _ _ _ (by simp; omega), Below.heap_alloc _ _ _ (by simp)]; exact heap_alloc_new w _
  have h3 : (((w.alloc (.cells #[.int .i64 k0, .int .i64 k1, .int .i64 k2, .int .i64 k3] t)).alloc (.cells zDisk 79)).alloc (.cells #[.pointer none, .pointer (some ⟨w.heap.size + 1, 0, none⟩)] s)).heap[w.heap.size + 1 + 1]? = some (.cells #[.pointer none, .pointer (some ⟨w.heap.size + 1, 0, none⟩)] s (0, 0)) := by
    have := heap_alloc_new ((w.alloc (.cells #[.int .i64 k0, .int .i64 k1, .int .i64 k2, .int .i64 k3] t)).alloc (.cells zDisk 79)) (.cells #[.pointer none, .pointer (some ⟨w.heap.size + 1, 0, none⟩)] s)
    have e : ((w.alloc (.cells #[.int .i64 k0, .int .i64 k1, .int .i64 k2, .int .i64 k3] t)).alloc (.cells zDisk 79)).heap.size = w.heap.size + 1 + 1 := by simp
    rw [e] at this; exact this
  have hz := (zeroDisk_none (w.alloc (.cells #[.int .i64 k0, .int .i64 k1, .int .i64 k2, .int .i64 k3] t))).alloc (.cells #[.pointer none, .pointer (some ⟨w.heap.size + 1, 0, none⟩)] s)
  have e : (w.alloc (.cells #[.int .i64 k0, .int .i64 k1, .int .i64 k2, .int .i64 k3] t)).heap.size = w.heap.size + 1 := by simp
  rw [e] at hz
  exact ⟨cell_of_row _ _ 0 _ _ _ h1, cell_of_row _ _ 1 _ _ _ h1, cell_of_row _ _ 2 _ _ _ h1, cell_of_row _ _ 3 _ _ _ h1, cell_of_row _ _ 0 _ _ _ h3, cell_of_row _ _ 1 _ _ _ h3, hz,
    (((Below.refl _ _).alloc (Nat.le_refl _) _).alloc (by simp) _).alloc (by simp; omega) _⟩


end
end Go.Proofs.Ytoabpjdpdcpdlaa
