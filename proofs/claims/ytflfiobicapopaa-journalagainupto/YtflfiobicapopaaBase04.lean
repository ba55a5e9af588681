/- None, HeadOk, HeadKeep, RecMath, LowA, CrcRef, RecRef, RecRef2, RecRef3, RecRef4: our own definitions and contracts; no statement of the seat is proved here. -/
import Derived.Test.YtflfiobicapopaaBase02
import Derived.Test.YtflfiobicapopaaBase03
import Derived.Test.YtflfiobicapopaaBase00
import Derived.Test.YtflfiobicapopaaBase01
namespace Go.Proofs.Ytflfiobicapopaa
open Go.RowKit

/-- No disk: nil, or one that does not point at itself, but nowhere. -/
def NoDisk (w : World) (q : Value) : Prop := q = .pointer none ∨ ∃ b, q = .pointer (some ⟨b, 0, none⟩) ∧ w.cell? ⟨b, 0, none⟩ = some (.pointer none)

theorem NoDisk.kept {w w' : World} {q : Value} (h : NoDisk w q) {B : Nat} (hb : Below B w w') (hB : w.heap.size ≤ B) : NoDisk w' q := by
  rcases h with h | ⟨b, h, hc⟩
  · exact .inl h
  · exact .inr ⟨b, h, by rw [hb.cell (p := ⟨b, 0, none⟩) (Nat.lt_of_lt_of_le (World.block_lt_of_cell? w _ hc) hB)]; exact hc⟩

theorem NoDisk.alloc {w : World} {q : Value} (h : NoDisk w q) (o : Obj) : NoDisk (w.alloc o) q := h.kept ((Below.refl w.heap.size w).alloc (Nat.le_refl _) o) (Nat.le_refl _)

theorem run_eql_nil_ptr {P : Program} (w : World) {t e : TypeId} (a : Addr) (ht : P.underlying t = some (.pointer e)) : (binOp .eql t (.pointer none) (.pointer (some a))).run P w = .ok (.bool false) w := by
  have h : ∀ d : Nat, (Op.equalIn (d + 1) t (.pointer none) (.pointer (some a))).run P w = .ok false w := fun d => by
    simp [Op.equalIn, run_underlying ht]
  simp only [binOp]
  simp [Op.equal, Op.maxDepth, h 9999]

section
variable {w : World} {q : Value}

set_option maxHeartbeats 400000 in
theorem made_not (h : NoDisk w q) : Calls Try.prog 47 #[q] w fun e w' => e = .returned (.bool false) ∧ w' = w := by
  rcases h with rfl | ⟨b, rfl, hc⟩
  · go_enter Try.func47, Try.ntmps47
    go_wp2
    go_ret
    exact ⟨rfl, rfl⟩
  · have he := run_eql_nil_ptr (P := Try.prog) w ⟨b, 0, none⟩ Try.underlying29
    go_enter Try.func47, Try.ntmps47
    go_wp2
    go_ret
    exact ⟨rfl, rfl⟩

set_option maxHeartbeats 400000 in
theorem fault_nil (h : NoDisk w q) : Calls Try.prog 33 #[q] w fun e w' => e = .returned (.int .i64 1) ∧ w' = w := by
  have HD := hide h
  clear h
  go_enter Try.func33, Try.ntmps33
  go_wp2_with (go_at_call 47; refine (made_not (unhide HD)).mono ?_; rintro e w' ⟨rfl, rfl⟩)
  go_ret
  exact ⟨rfl, rfl⟩

set_option maxHeartbeats 400000 in
theorem fuse_nil (h : NoDisk w q) (c k : Int) : Calls Try.prog 11 #[q, .int .i64 c, .int .i64 k] w fun e w' => e = .returned (.tuple #[]) ∧ w' = w := by
  obtain ⟨a0, hq⟩ : ∃ a0, q = .pointer a0 := by
    rcases h with h | ⟨b, h, _⟩
    · exact ⟨_, h⟩
    · exact ⟨_, h⟩
  have HD := hide h
  clear h
  subst hq
  go_enter Try.func11, Try.ntmps11
  go_wp2_with (go_at_call 33; refine (fault_nil (unhide HD)).mono ?_; rintro e w' ⟨rfl, rfl⟩)
  first | go_end0 | (refine bodyPost_ret (v := .tuple #[]) (by simp [results, Try.results11, go_sem]) rfl ?_)
  exact ⟨rfl, rfl⟩

set_option maxHeartbeats 400000 in
theorem crash_nil (h : NoDisk w q) (a b c d : Int) : Calls Try.prog 16 #[q, .agg #[.int .i64 a, .int .i64 b, .int .i64 c, .int .i64 d]] w fun e w' => e = .returned (.tuple #[]) ∧ Below w.heap.size w w' := by
  obtain ⟨a0, hq⟩ : ∃ a0, q = .pointer a0 := by
    rcases h with h | ⟨b, h, _⟩
    · exact ⟨_, h⟩
    · exact ⟨_, h⟩
  have HD := hide h
  clear h
  subst hq
  go_enter Try.func16, Try.ntmps16
  go_wp2_with (go_at_call 47; refine (made_not ((unhide HD).alloc _)).mono ?_; rintro e w' ⟨rfl, rfl⟩)
  first | go_end0 | (refine bodyPost_ret (v := .tuple #[]) (by simp [results, Try.results16, go_sem]) rfl ?_)
  exact ⟨rfl, ((Below.refl _ _).alloc (by simp) _)⟩

set_option maxHeartbeats 400000 in
theorem append_nil (h : NoDisk w q) (s : Int) (a : Option Addr) (n c : Nat) : Calls Try.prog 23 #[q, .int .i64 s, .slice a n c] w fun e w' => e = .returned (.int .i64 1) ∧ Below w.heap.size w w' := by
  obtain ⟨a0, hq⟩ : ∃ a0, q = .pointer a0 := by
    rcases h with h | ⟨b, h, _⟩
    · exact ⟨_, h⟩
    · exact ⟨_, h⟩
  have HD := hide h
  clear h
  subst hq
  go_enter Try.func23, Try.ntmps23
  go_wp2_with (go_at_call 33; refine (fault_nil ((unhide HD).alloc _)).mono ?_; rintro e w' ⟨rfl, rfl⟩)
  go_ret
  exact ⟨rfl, ((Below.refl _ _).alloc (by simp) _)⟩

set_option maxHeartbeats 400000 in
theorem sync_nil (h : NoDisk w q) (s : Int) : Calls Try.prog 40 #[q, .int .i64 s] w fun e w' => e = .returned (.int .i64 1) ∧ Below w.heap.size w w' := by
  obtain ⟨a0, hq⟩ : ∃ a0, q = .pointer a0 := by
    rcases h with h | ⟨b, h, _⟩
    · exact ⟨_, h⟩
    · exact ⟨_, h⟩
  have HD := hide h
  clear h
  subst hq
  go_enter Try.func40, Try.ntmps40
  go_wp2_with (go_at_call 33; refine (fault_nil (((unhide HD).alloc _).alloc _)).mono ?_; rintro e w' ⟨rfl, rfl⟩)
  go_ret
  exact ⟨rfl, (((Below.refl _ _).alloc (by simp) _).alloc (by simp) _)⟩

set_option maxHeartbeats 400000 in
theorem truncate_nil (h : NoDisk w q) (s n : Int) : Calls Try.prog 75 #[q, .int .i64 s, .int .i64 n] w fun e w' => e = .returned (.int .i64 1) ∧ Below w.heap.size w w' := by
  obtain ⟨a0, hq⟩ : ∃ a0, q = .pointer a0 := by
    rcases h with h | ⟨b, h, _⟩
    · exact ⟨_, h⟩
    · exact ⟨_, h⟩
  have HD := hide h
  clear h
  subst hq
  go_enter Try.func75, Try.ntmps75
  go_wp2_with (go_at_call 33; refine (fault_nil ((((unhide HD).alloc _).alloc _).alloc _)).mono ?_; rintro e w' ⟨rfl, rfl⟩)
  go_ret
  exact ⟨rfl, ((((Below.refl _ _).alloc (by simp) _).alloc (by simp) _).alloc (by simp; omega) _)⟩

set_option maxHeartbeats 400000 in
theorem write_nil (h : NoDisk w q) (s : Int) (a : Option Addr) (n c : Nat) : Calls Try.prog 86 #[q, .int .i64 s, .slice a n c] w fun e w' => e = .returned (.int .i64 1) ∧ Below w.heap.size w w' := by
  obtain ⟨a0, hq⟩ : ∃ a0, q = .pointer a0 := by
    rcases h with h | ⟨b, h, _⟩
    · exact ⟨_, h⟩
    · exact ⟨_, h⟩
  have HD := hide h
  clear h
  subst hq
  go_enter Try.func86, Try.ntmps86
  go_wp2_with (go_at_call 33; refine (fault_nil ((((unhide HD).alloc _).alloc _).alloc _)).mono ?_; rintro e w' ⟨rfl, rfl⟩)
  go_ret
  exact ⟨rfl, ((((Below.refl _ _).alloc (by simp) _).alloc (by simp) _).alloc (by simp; omega) _)⟩

set_option maxHeartbeats 400000 in
theorem syncHead_nil (h : NoDisk w q) : Calls Try.prog 30 #[q] w fun e w' => e = .returned (.int .i64 1) ∧ Below w.heap.size w w' := by
  obtain ⟨a0, hq⟩ : ∃ a0, q = .pointer a0 := by
    rcases h with h | ⟨b, h, _⟩
    · exact ⟨_, h⟩
    · exact ⟨_, h⟩
  have HD := hide h
  clear h
  subst hq
  go_enter Try.func30, Try.ntmps30
  go_wp2_with (go_at_call 33; refine (fault_nil ((unhide HD).alloc _)).mono ?_; rintro e w' ⟨rfl, rfl⟩)
  go_ret
  exact ⟨rfl, ((Below.refl _ _).alloc (by simp) _)⟩

set_option maxHeartbeats 400000 in
theorem read_nil (h : NoDisk w q) (s : Int) : Calls Try.prog 24 #[q, .int .i64 s] w fun e w' => e = .returned (.slice none 0 0) ∧ w' = w := by
  obtain ⟨a0, hq⟩ : ∃ a0, q = .pointer a0 := by
    rcases h with h | ⟨b, h, _⟩
    · exact ⟨_, h⟩
    · exact ⟨_, h⟩
  have HD := hide h
  clear h
  subst hq
  go_enter Try.func24, Try.ntmps24
  go_wp2_with (go_at_call 33; refine (fault_nil (unhide HD)).mono ?_; rintro e w' ⟨rfl, rfl⟩)
  go_ret
  exact ⟨rfl, rfl⟩

set_option maxHeartbeats 400000 in
theorem head_nil (h : NoDisk w q) (s : Int) : Calls Try.prog 78 #[q, .int .i64 s] w fun e w' => e = .returned (.slice none 0 0) ∧ w' = w := by
  obtain ⟨a0, hq⟩ : ∃ a0, q = .pointer a0 := by
    rcases h with h | ⟨b, h, _⟩
    · exact ⟨_, h⟩
    · exact ⟨_, h⟩
  have HD := hide h
  clear h
  subst hq
  go_enter Try.func78, Try.ntmps78
  go_wp2_with (go_at_call 33; refine (fault_nil (unhide HD)).mono ?_; rintro e w' ⟨rfl, rfl⟩)
  go_ret
  exact ⟨rfl, rfl⟩

set_option maxHeartbeats 400000 in
theorem free_nil (h : NoDisk w q) : Calls Try.prog 66 #[q] w fun e w' => e = .returned (.int .i64 0) ∧ w' = w := by
  obtain ⟨a0, hq⟩ : ∃ a0, q = .pointer a0 := by
    rcases h with h | ⟨b, h, _⟩
    · exact ⟨_, h⟩
    · exact ⟨_, h⟩
  have HD := hide h
  clear h
  subst hq
  go_enter Try.func66, Try.ntmps66
  go_wp2_with (go_at_call 33; refine (fault_nil (unhide HD)).mono ?_; rintro e w' ⟨rfl, rfl⟩)
  go_ret
  exact ⟨rfl, rfl⟩

set_option maxHeartbeats 400000 in
theorem dead_nil (h : NoDisk w q) : Calls Try.prog 77 #[q] w fun e w' => e = .returned (.bool false) ∧ w' = w := by
  obtain ⟨a0, hq⟩ : ∃ a0, q = .pointer a0 := by
    rcases h with h | ⟨b, h, _⟩
    · exact ⟨_, h⟩
    · exact ⟨_, h⟩
  have HD := hide h
  clear h
  subst hq
  go_enter Try.func77, Try.ntmps77
  go_wp2_with (go_at_call 33; refine (fault_nil (unhide HD)).mono ?_; rintro e w' ⟨rfl, rfl⟩)
  go_ret
  exact ⟨rfl, rfl⟩

theorem zeroDisk_none (w : World) : NoDisk (w.alloc (.cells zDisk 79)) (.pointer (some ⟨w.heap.size, 0, none⟩)) :=
  .inr ⟨w.heap.size, rfl, by rw [cell_of_row _ _ 0 _ _ _ (heap_alloc_new w _)]; kernel_rfl⟩

/-- What the law's walk keeps: the four numbers, the two pointers, and that the second is no disk. -/
structure Ctx (w : World) (k0 k1 k2 k3 : Int) (W : World) : Prop where
  c0 : W.cell? ⟨w.heap.size, 0, none⟩ = some (.int .i64 k0)
  c1 : W.cell? ⟨w.heap.size, 1, none⟩ = some (.int .i64 k1)
  c2 : W.cell? ⟨w.heap.size, 2, none⟩ = some (.int .i64 k2)
  c3 : W.cell? ⟨w.heap.size, 3, none⟩ = some (.int .i64 k3)
  p0 : W.cell? ⟨w.heap.size + 1 + 1, 0, none⟩ = some (.pointer none)
  p1 : W.cell? ⟨w.heap.size + 1 + 1, 1, none⟩ = some (.pointer (some ⟨w.heap.size + 1, 0, none⟩))
  nd : NoDisk W (.pointer (some ⟨w.heap.size + 1, 0, none⟩))
  b : Below w.heap.size w W

theorem Ctx.kept {w W W' : World} {k0 k1 k2 k3 : Int} (h : Ctx w k0 k1 k2 k3 W) (hb : Below W.heap.size W W') : Ctx w k0 k1 k2 k3 W' := by
  have hc : ∀ p v, W.cell? p = some v → W'.cell? p = some v := fun p v hv => by rw [hb.cell (World.block_lt_of_cell? W p hv)]; exact hv
  exact ⟨hc _ _ h.c0, hc _ _ h.c1, hc _ _ h.c2, hc _ _ h.c3, hc _ _ h.p0, hc _ _ h.p1, h.nd.kept hb (Nat.le_refl _), h.b.trans (hb.mono h.b.size)⟩

theorem ctx_start (w : World) (k0 k1 k2 k3 : Int) (t s : TypeId) : Ctx w k0 k1 k2 k3 (((w.alloc (.cells #[.int .i64 k0, .int .i64 k1, .int .i64 k2, .int .i64 k3] t)).alloc (.cells zDisk 79)).alloc (.cells #[.pointer none, .pointer (some ⟨w.heap.size + 1, 0, none⟩)] s)) := by
  have h1 : (((w.alloc (.cells #[.int .i64 k0, .int .i64 k1, .int .i64 k2, .int .i64 k3] t)).alloc (.cells zDisk 79)).alloc (.cells #[.pointer none, .pointer (some ⟨w.heap.size + 1, 0, none⟩)] s)).heap[w.heap.size]? = some (.cells #[.int .i64 k0, .int .i64 k1, .int .i64 k2, .int .i64 k3] t (0, 0)) := by
    rw [Below.heap_alloc _ _ _ (by simp; omega), Below.heap_alloc _ _ _ (by simp)]; exact heap_alloc_new w _
  have h3 : (((w.alloc (.cells #[.int .i64 k0, .int .i64 k1, .int .i64 k2, .int .i64 k3] t)).alloc (.cells zDisk 79)).alloc (.cells #[.pointer none, .pointer (some ⟨w.heap.size + 1, 0, none⟩)] s)).heap[w.heap.size + 1 + 1]? = some (.cells #[.pointer none, .pointer (some ⟨w.heap.size + 1, 0, none⟩)] s (0, 0)) := by
    have := heap_alloc_new ((w.alloc (.cells #[.int .i64 k0, .int .i64 k1, .int .i64 k2, .int .i64 k3] t)).alloc (.cells zDisk 79)) (.cells #[.pointer none, .pointer (some ⟨w.heap.size + 1, 0, none⟩)] s)
    have e : ((w.alloc (.cells #[.int .i64 k0, .int .i64 k1, .int .i64 k2, .int .i64 k3] t)).alloc (.cells zDisk 79)).heap.size = w.heap.size + 1 + 1 := by simp
    rw [e] at this; exact this
  have hz := (zeroDisk_none (w.alloc (.cells #[.int .i64 k0, .int .i64 k1, .int .i64 k2, .int .i64 k3] t))).alloc (.cells #[.pointer none, .pointer (some ⟨w.heap.size + 1, 0, none⟩)] s)
  have e : (w.alloc (.cells #[.int .i64 k0, .int .i64 k1, .int .i64 k2, .int .i64 k3] t)).heap.size = w.heap.size + 1 := by simp
  rw [e] at hz
  exact ⟨cell_of_row _ _ 0 _ _ _ h1, cell_of_row _ _ 1 _ _ _ h1, cell_of_row _ _ 2 _ _ _ h1, cell_of_row _ _ 3 _ _ _ h1, cell_of_row _ _ 0 _ _ _ h3, cell_of_row _ _ 1 _ _ _ h3, hz,
    (((Below.refl _ _).alloc (Nat.le_refl _) _).alloc (by simp) _).alloc (by simp; omega) _⟩


end
end Go.Proofs.Ytflfiobicapopaa

namespace Go.Proofs.Ytflfiobicapopaa
open Go.RowKit

/-- Save and Load too. -/
structure HeadOk : Prop where
  pure : HeadPure
  save : ∀ (D : Nat → Prop) (p : Nat) (A : AD) (w0 w : World) (s e l : Nat), Now D p A w0 w → (HeadD.mk s e l).fits → Calls Try.prog 74 #[.pointer (some ⟨p, 0, none⟩), .agg #[.int .u64 ((s : Nat) : Int), .int .u64 ((e : Nat) : Int), .int .u8 ((l : Nat) : Int)]] w fun e' w' => e' = .returned (.tuple #[(saveH A ⟨s, e, l⟩).val, .int .i64 (saveE A ⟨s, e, l⟩)]) ∧ Now D p (saveD A ⟨s, e, l⟩) w0 w'
  load : ∀ (D : Nat → Prop) (p : Nat) (A : AD) (w0 w : World), Now D p A w0 w → Calls Try.prog 50 #[.pointer (some ⟨p, 0, none⟩)] w fun e' w' => e' = .returned (.tuple #[(loadH A).val, .int .i64 (loadE A)]) ∧ Now D p A w0 w'
  saveNone : ∀ (q : Value) (w : World) (s e l : Nat), NoDisk w q → (HeadD.mk s e l).fits → (HeadD.mk s e l).next.right = true → Calls Try.prog 74 #[q, .agg #[.int .u64 ((s : Nat) : Int), .int .u64 ((e : Nat) : Int), .int .u8 ((l : Nat) : Int)]] w fun e' w' => e' = .returned (.tuple #[.agg #[.int .u64 0, .int .u64 0, .int .u8 0], .int .i64 1]) ∧ Below w.heap.size w w'
  loadNone : ∀ (q : Value) (w : World), NoDisk w q → Calls Try.prog 50 #[q] w fun e' w' => e' = .returned (.tuple #[.agg #[.int .u64 0, .int .u64 0, .int .u8 0], .int .i64 1]) ∧ Below w.heap.size w w'

/-- What is kept along a walk, beside a disk at p that holds what A tells: rows L and heads M are none of the disk's. -/
structure Kd (w W : World) (L : List (Value × List UInt8)) (M : List (Nat × Array Value)) (p : Nat) (A : AD) : Prop where
  kh : Kh w W L M
  dsk : ∃ D v, DiskIs W p D v A ∧ (∀ k, D k → w.heap.size ≤ k) ∧ (∀ q ∈ M, ¬ D q.1) ∧ ∀ q ∈ L, q.2 ≠ [] → ∀ k, q.1.ownBlock = some k → ¬ D k
section
variable {w W W' : World} {L : List (Value × List UInt8)} {M : List (Nat × Array Value)} {p : Nat} {A : AD}
theorem Kd.start (h : Kh w W L M) (hn : Now (fun k => k = p) p A W' W') (hp : p = W.heap.size) (hb : Below p W W') : Kd w W' L M p A := by
  subst hp
  refine ⟨h.later hb, ?_⟩
  obtain ⟨D', v, h1, h2⟩ := hn
  have hD : ∀ k, D' k → k = W.heap.size ∨ W'.heap.size ≤ k := fun k hk => h2.own k hk
  refine ⟨D', v, h1, fun k hk => ?_, fun q hq hk => ?_, fun q hq hne k hk hd => ?_⟩
  · have := h.bb.size; have := hb.size; rcases hD k hk with e | e <;> omega
  · have := (Array.getElem?_eq_some_iff.1 (h.ce q hq)).1; have := hb.size; rcases hD _ hk with e | e <;> omega
  · have := (h.byt q hq).lt hne k hk; have := hb.size; rcases hD _ hd with e | e <;> omega
theorem Kd.later (h : Kd w W L M p A) (hb : Below W.heap.size W W') : Kd w W' L M p A := by
  obtain ⟨D, v, h1, h2, h3, h4⟩ := h.dsk
  exact ⟨h.kh.later hb, D, v, h1.kept hb.size fun k hk => hb.block k (h1.lt k hk), h2, h3, h4⟩
theorem Kd.newC (h : Kd w W L M p A) (cs : Array Value) : Kd w (W.alloc (.cells cs 37)) L ((W.heap.size, cs) :: M) p A := by
  obtain ⟨D, v, h1, h2, h3, h4⟩ := h.dsk
  refine ⟨h.kh.newC cs, D, v, h1.alloc _, h2, fun q hq => ?_, h4⟩
  rcases List.mem_cons.1 hq with e | e
  · rw [e]; exact fun hd => Nat.lt_irrefl _ (h1.lt _ hd)
  · exact h3 q e
/-- One more, at a block that is not the disk's since it came behind it. -/
theorem Kd.step (h : Kd w W L M p A) : ∃ D, Now D p A W W ∧ ∀ A' W', Now D p A' W W' → Kd w W' L M p A' := by
  obtain ⟨D, v, h1, h2, h3, h4⟩ := h.dsk
  refine ⟨D, Now.start h1, fun A' W' hn => ?_⟩
  have hb : Below w.heap.size W W' := hn.toBelow h.kh.bb.size h2
  have hkeep : ∀ k, k < W.heap.size → ¬ D k → W'.heap[k]? = W.heap[k]? := fun k hk hd => by
    obtain ⟨_, _, _, s⟩ := hn
    exact s.block k hk hd
  have hlt : ∀ q ∈ M, q.1 < W.heap.size := fun q hq => (Array.getElem?_eq_some_iff.1 (h.kh.ce q hq)).1
  refine ⟨⟨h.kh.bb.trans hb, fun q hq => hn.bytes (h.kh.byt q hq) (h4 q hq), fun q hq => (hkeep _ (hlt q hq) (h3 q hq)).trans (h.kh.ce q hq)⟩, ?_⟩
  obtain ⟨D', v', k1, k2⟩ := hn
  refine ⟨D', v', k1, fun k hk => ?_, fun q hq hd => ?_, fun q hq hne k hk hd => ?_⟩
  · rcases k2.own k hk with e | e
    · exact h2 k e
    · exact Nat.le_trans h.kh.bb.size e
  · rcases k2.own _ hd with e | e
    · exact h3 q hq e
    · exact absurd (hlt q hq) (by omega)
  · rcases k2.own _ hd with e | e
    · exact h4 q hq hne k hk e
    · exact absurd ((h.kh.byt q hq).lt hne k hk) (by omega)
theorem kSave (ho : HeadOk) (h : Kd w W L M p A) (s e l s' e' l' : Nat) (E : Int) (hf : (HeadD.mk s e l).fits) (hE : saveE A ⟨s, e, l⟩ = E) (hH : saveH A ⟨s, e, l⟩ = ⟨s', e', l'⟩) :
    Calls Try.prog 74 #[.pointer (some ⟨p, 0, none⟩), .agg #[.int .u64 ((s : Nat) : Int), .int .u64 ((e : Nat) : Int), .int .u8 ((l : Nat) : Int)]] W fun x W' => x = .returned (.tuple #[.agg #[.int .u64 ((s' : Nat) : Int), .int .u64 ((e' : Nat) : Int), .int .u8 ((l' : Nat) : Int)], .int .i64 E]) ∧ Kd w W' L M p (saveD A ⟨s, e, l⟩) := by
  obtain ⟨D, hn, hs⟩ := h.step
  refine (ho.save D p A W W s e l hn hf).mono fun x W' ⟨hx, hN⟩ => ⟨?_, hs _ _ hN⟩
  rw [hx, hE, hH]; rfl
theorem kLoad (ho : HeadOk) (h : Kd w W L M p A) (s' e' l' : Nat) (E : Int) (hE : loadE A = E) (hH : loadH A = ⟨s', e', l'⟩) :
    Calls Try.prog 50 #[.pointer (some ⟨p, 0, none⟩)] W fun x W' => x = .returned (.tuple #[.agg #[.int .u64 ((s' : Nat) : Int), .int .u64 ((e' : Nat) : Int), .int .u8 ((l' : Nat) : Int)], .int .i64 E]) ∧ Kd w W' L M p A := by
  obtain ⟨D, hn, hs⟩ := h.step
  refine (ho.load D p A W W hn).mono fun x W' ⟨hx, hN⟩ => ⟨?_, hs _ _ hN⟩
  rw [hx, hE, hH]; rfl
theorem kCrash (h : Kd w W L M p A) (a b c d : Int) : Calls Try.prog 16 #[.pointer (some ⟨p, 0, none⟩), .agg #[.int .i64 a, .int .i64 b, .int .i64 c, .int .i64 d]] W fun x W' => x = .returned (.tuple #[]) ∧ Kd w W' L M p (A.crashed (kp a b c d)) := by
  obtain ⟨D, hn, hs⟩ := h.step
  exact (nCrash hn a b c d).mono fun x W' ⟨hx, hN⟩ => ⟨hx, hs _ _ hN⟩
theorem kFuse (h : Kd w W L M p A) (hd : A.dead = false) (c k : Int) (hc : c ≤ 9223372036854775807) : Calls Try.prog 11 #[.pointer (some ⟨p, 0, none⟩), .int .i64 c, .int .i64 k] W fun x W' => x = .returned (.tuple #[]) ∧ Kd w W' L M p (A.fused c k) := by
  obtain ⟨D, hn, hs⟩ := h.step
  exact (nFuse hn hd c k hc).mono fun x W' ⟨hx, hN⟩ => ⟨hx, hs _ _ hN⟩
theorem kNew (h : Kh w W L M) (c : Int) (h0 : 0 ≤ c) (h1 : c ≤ 1048576) : Calls Try.prog 31 #[.int .i64 c] W fun x W' => ∃ p, x = .returned (.tuple #[.pointer (some ⟨p, 0, none⟩), .int .i64 0]) ∧ Kd w W' L M p (AD.new c) :=
  (new_at c h0 h1 W W.heap.size rfl).mono fun _ _ ⟨hx, hN, _, hb⟩ => ⟨_, hx, Kd.start h hN rfl hb⟩
end
end Go.Proofs.Ytflfiobicapopaa

namespace Go.Proofs.Ytflfiobicapopaa
open Go.RowKit

/-- A disk at p that holds what A tells, and blocks M that are none of its own; all that was there in w is as it was. -/
structure Kb (w W : World) (M : List (Nat × Obj)) (p : Nat) (A : AD) : Prop where
  bb : Below w.heap.size w W
  ce : ∀ q ∈ M, W.heap[q.1]? = some q.2
  dsk : ∃ D v, DiskIs W p D v A ∧ (∀ k, D k → w.heap.size ≤ k) ∧ ∀ q ∈ M, ¬ D q.1

/-- Write of 32 bytes and SyncHead, whatever the disk. -/
theorem nWrite_any {D : Nat → Prop} {w0 w : World} {p : Nat} {A : AD} (h : Now D p A w0 w) (i : Nat) (hi : i < 2) (a : Option Addr) (c : Nat) (bs : List UInt8) (hu : Bytes w0 (.slice a 32 c) bs) (hn : Off D w0 (.slice a 32 c) bs) (hb : bs.length = 32) :
    Calls Try.prog 86 #[.pointer (some ⟨p, 0, none⟩), .int .i64 ((i : Nat) : Int), .slice a 32 c] w fun e w' => e = .returned (.int .i64 (chE A)) ∧ Now D p (wrA A i bs) w0 w' := by
  obtain ⟨D', v', h1, h2⟩ := id h
  cases hd : A.dead with
  | true =>
    have e1 : chE A = 3 := by simp [chE, hd]
    have e2 : wrA A i bs = A := by simp [wrA, hd]
    rw [e1, e2]
    exact nWrite_dead h hd i _ _ _
  | false =>
    by_cases hc : A.calls = 0
    · have e1 : chE A = 3 := by simp [chE, hd, hc]
      have e2 : wrA A i bs = { A with dead := true } := by simp [wrA, hd, hc]
      rw [e1, e2]
      exact (write_kill h1 hd hc i hi _ _).mono fun e W' ⟨he, hx⟩ => ⟨he, Now.trans h2 hx⟩
    · have e1 : chE A = 0 := by simp [chE, hd, hc]
      have e2 : wrA A i bs = A.tick.wrote i bs := by simp [wrA, hd, hc]
      rw [e1, e2]
      exact nWrite_ok h hd hc i hi a c bs hu hn hb
theorem nSyncHead_any {D : Nat → Prop} {w0 w : World} {p : Nat} {A : AD} (h : Now D p A w0 w) : Calls Try.prog 30 #[.pointer (some ⟨p, 0, none⟩)] w fun e w' => e = .returned (.int .i64 (chE A)) ∧ Now D p (shA A) w0 w' := by
  obtain ⟨D', v', h1, h2⟩ := id h
  cases hd : A.dead with
  | true =>
    have e1 : chE A = 3 := by simp [chE, hd]
    have e2 : shA A = A := by simp [shA, hd]
    rw [e1, e2]
    exact nSyncHead_dead h hd
  | false =>
    by_cases hc : A.calls = 0
    · have e1 : chE A = 3 := by simp [chE, hd, hc]
      have e2 : shA A = { A with dead := true } := by simp [shA, hd, hc]
      rw [e1, e2]
      exact (syncHead_kill h1 hd hc).mono fun e W' ⟨he, hx⟩ => ⟨he, Now.trans h2 hx⟩
    · have e1 : chE A = 0 := by simp [chE, hd, hc]
      have e2 : shA A = A.tick.syncedHead := by simp [shA, hd, hc]
      rw [e1, e2]
      exact nSyncHead_ok h hd hc

section
variable {w W W' : World} {M : List (Nat × Obj)} {p : Nat} {A : AD}
theorem Kb.start (hw : Below w.heap.size w W) (hM : ∀ q ∈ M, W.heap[q.1]? = some q.2) (hn : Now (fun k => k = p) p A W' W') (hp : p = W.heap.size) (hb : Below p W W') : Kb w W' M p A := by
  subst hp
  obtain ⟨D', v, h1, h2⟩ := hn
  have hD : ∀ k, D' k → k = W.heap.size ∨ W'.heap.size ≤ k := fun k hk => h2.own k hk
  have hlt : ∀ q ∈ M, q.1 < W.heap.size := fun q hq => (Array.getElem?_eq_some_iff.1 (hM q hq)).1
  refine ⟨hw.trans (hb.mono hw.size), fun q hq => (hb.block _ (hlt q hq)).trans (hM q hq), D', v, h1, fun k hk => ?_, fun q hq hk => ?_⟩
  · have := hw.size; have := hb.size; rcases hD k hk with e | e <;> omega
  · have := hlt q hq; have := hb.size; rcases hD _ hk with e | e <;> omega
theorem Kb.later (h : Kb w W M p A) (hb : Below W.heap.size W W') : Kb w W' M p A := by
  obtain ⟨D, v, h1, h2, h3⟩ := h.dsk
  exact ⟨h.bb.trans (hb.mono h.bb.size), fun q hq => (hb.block _ (Array.getElem?_eq_some_iff.1 (h.ce q hq)).1).trans (h.ce q hq), D, v, h1.kept hb.size fun k hk => hb.block k (h1.lt k hk), h2, h3⟩
theorem Kb.new (h : Kb w W M p A) (o : Obj) : Kb w (W.alloc o) ((W.heap.size, o) :: M) p A := by
  have h' := h.later ((Below.refl _ W).alloc (Nat.le_refl _) o)
  obtain ⟨D, v, h1, h2, h3⟩ := h.dsk
  refine ⟨h'.bb, fun q hq => ?_, D, v, h1.alloc _, h2, fun q hq => ?_⟩
  · rcases List.mem_cons.1 hq with e | e
    · rw [e]; exact heap_alloc_new W _
    · exact h'.ce q e
  · rcases List.mem_cons.1 hq with e | e
    · rw [e]; exact fun hd => Nat.lt_irrefl _ (h1.lt _ hd)
    · exact h3 q e
theorem Kb.less {M' : List (Nat × Obj)} (h : Kb w W M p A) (hs : ∀ q ∈ M', q ∈ M) : Kb w W M' p A := by
  obtain ⟨D, v, h1, h2, h3⟩ := h.dsk
  exact ⟨h.bb, fun q hq => h.ce q (hs q hq), D, v, h1, h2, fun q hq => h3 q (hs q hq)⟩
theorem Kb.step (h : Kb w W M p A) : ∃ D, Now D p A W W ∧ (∀ q ∈ M, ¬ D q.1) ∧ ∀ A' W', Now D p A' W W' → Kb w W' M p A' := by
  obtain ⟨D, v, h1, h2, h3⟩ := h.dsk
  refine ⟨D, Now.start h1, h3, fun A' W' hn => ?_⟩
  have hb : Below w.heap.size W W' := hn.toBelow h.bb.size h2
  obtain ⟨D', v', k1, k2⟩ := hn
  have hlt : ∀ q ∈ M, q.1 < W.heap.size := fun q hq => (Array.getElem?_eq_some_iff.1 (h.ce q hq)).1
  refine ⟨h.bb.trans hb, fun q hq => (k2.block _ (hlt q hq) (h3 q hq)).trans (h.ce q hq), D', v', k1, fun k hk => ?_, fun q hq => k2.notOwn (hlt q hq) (h3 q hq)⟩
  rcases k2.own k hk with e | e
  · exact h2 k e
  · exact Nat.le_trans h.bb.size e
/-- A cell of a block that is kept, and that it may be written. -/
theorem Kb.cell (h : Kb w W M p A) {g : Nat} {cs : Array Value} {t : TypeId} (hm : (g, Obj.cells cs t (0, 0)) ∈ M) (k : Nat) : W.cell? ⟨g, k, none⟩ = cs[k]? := cell_of_row _ _ k _ _ _ (h.ce _ hm)
theorem Kb.frozen (h : Kb w W M p A) {g : Nat} {cs : Array Value} {t : TypeId} (hm : (g, Obj.cells cs t (0, 0)) ∈ M) (k : Nat) : W.frozen? ⟨g, k, none⟩ = false := frozen_of_row _ _ _ _ _ (h.ce _ hm)
/-- A store into the first block that is kept. -/
theorem Kb.set {g : Nat} {cs : Array Value} {t : TypeId} (h : Kb w W ((g, Obj.cells cs t (0, 0)) :: M) p A) (hg : w.heap.size ≤ g) (hne : ∀ q ∈ M, q.1 ≠ g) (k : Nat) (x : Value) : Kb w (W.setCell ⟨g, k, none⟩ x) ((g, Obj.cells (cs.setIfInBounds k x) t (0, 0)) :: M) p A := by
  obtain ⟨D, v, h1, h2, h3⟩ := h.dsk
  have hn : ¬ D g := h3 (g, Obj.cells cs t (0, 0)) (List.mem_cons_self ..)
  refine ⟨h.bb.setCell (p := ⟨g, k, none⟩) hg x, fun q hq => ?_, D, v, h1.kept (by simp [World.setCell]) fun j hj => Below.heap_setCell _ _ _ _ (fun e => hn (show D g from (show j = g from e) ▸ hj)), h2, fun q hq => ?_⟩
  · rcases List.mem_cons.1 hq with e | e
    · rw [e]; exact heap_setCell_same W g k _ _ x (h.ce (g, Obj.cells cs t (0, 0)) (List.mem_cons_self ..))
    · rw [Below.heap_setCell _ _ _ _ (hne q e)]; exact h.ce q (List.mem_cons_of_mem _ e)
  · rcases List.mem_cons.1 hq with e | e
    · rw [e]; exact hn
    · exact h3 q (List.mem_cons_of_mem _ e)
theorem Kb.set3 {g : Nat} {a b c : Value} {t : TypeId} (h : Kb w W ((g, Obj.cells #[a, b, c] t (0, 0)) :: M) p A) (hg : w.heap.size ≤ g) (hne : ∀ q ∈ M, q.1 ≠ g) (x y z : Value) : Kb w (((W.setCell ⟨g, 0, none⟩ x).setCell ⟨g, 1, none⟩ y).setCell ⟨g, 2, none⟩ z) ((g, Obj.cells #[x, y, z] t (0, 0)) :: M) p A :=
  ((h.set hg hne 0 x).set hg hne 1 y).set hg hne 2 z

theorem kbSave (ho : HeadOk) (h : Kb w W M p A) (s e l s' e' l' : Nat) (E : Int) (hf : (HeadD.mk s e l).fits) (hE : saveE A ⟨s, e, l⟩ = E) (hH : saveH A ⟨s, e, l⟩ = ⟨s', e', l'⟩) :
    Calls Try.prog 74 #[.pointer (some ⟨p, 0, none⟩), .agg #[.int .u64 ((s : Nat) : Int), .int .u64 ((e : Nat) : Int), .int .u8 ((l : Nat) : Int)]] W fun x W' => x = .returned (.tuple #[.agg #[.int .u64 ((s' : Nat) : Int), .int .u64 ((e' : Nat) : Int), .int .u8 ((l' : Nat) : Int)], .int .i64 E]) ∧ Kb w W' M p (saveD A ⟨s, e, l⟩) := by
  obtain ⟨D, hn, _, hs⟩ := h.step
  refine (ho.save D p A W W s e l hn hf).mono fun x W' ⟨hx, hN⟩ => ⟨?_, hs _ _ hN⟩
  rw [hx, hE, hH]; rfl
theorem kbLoad (ho : HeadOk) (h : Kb w W M p A) (s' e' l' : Nat) (E : Int) (hE : loadE A = E) (hH : loadH A = ⟨s', e', l'⟩) :
    Calls Try.prog 50 #[.pointer (some ⟨p, 0, none⟩)] W fun x W' => x = .returned (.tuple #[.agg #[.int .u64 ((s' : Nat) : Int), .int .u64 ((e' : Nat) : Int), .int .u8 ((l' : Nat) : Int)], .int .i64 E]) ∧ Kb w W' M p A := by
  obtain ⟨D, hn, _, hs⟩ := h.step
  refine (ho.load D p A W W hn).mono fun x W' ⟨hx, hN⟩ => ⟨?_, hs _ _ hN⟩
  rw [hx, hE, hH]; rfl
theorem kbCrash (h : Kb w W M p A) (a b c d : Int) : Calls Try.prog 16 #[.pointer (some ⟨p, 0, none⟩), .agg #[.int .i64 a, .int .i64 b, .int .i64 c, .int .i64 d]] W fun x W' => x = .returned (.tuple #[]) ∧ Kb w W' M p (A.crashed (kp a b c d)) := by
  obtain ⟨D, hn, _, hs⟩ := h.step
  exact (nCrash hn a b c d).mono fun x W' ⟨hx, hN⟩ => ⟨hx, hs _ _ hN⟩
theorem kbFuse (h : Kb w W M p A) (hd : A.dead = false) (c k : Int) (hc : c ≤ 9223372036854775807) : Calls Try.prog 11 #[.pointer (some ⟨p, 0, none⟩), .int .i64 c, .int .i64 k] W fun x W' => x = .returned (.tuple #[]) ∧ Kb w W' M p (A.fused c k) := by
  obtain ⟨D, hn, _, hs⟩ := h.step
  exact (nFuse hn hd c k hc).mono fun x W' ⟨hx, hN⟩ => ⟨hx, hs _ _ hN⟩
theorem kbSyncHead (h : Kb w W M p A) : Calls Try.prog 30 #[.pointer (some ⟨p, 0, none⟩)] W fun x W' => x = .returned (.int .i64 (chE A)) ∧ Kb w W' M p (shA A) := by
  obtain ⟨D, hn, _, hs⟩ := h.step
  exact (nSyncHead_any hn).mono fun x W' ⟨hx, hN⟩ => ⟨hx, hs _ _ hN⟩
theorem kbWrite (h : Kb w W M p A) (i : Nat) (hi : i < 2) {g : Nat} {o : Obj} (hm : (g, o) ∈ M) (k c : Nat) (bs : List UInt8) (hu : Bytes W (.slice (some ⟨g, k, none⟩) 32 c) bs) (hb : bs.length = 32) :
    Calls Try.prog 86 #[.pointer (some ⟨p, 0, none⟩), .int .i64 ((i : Nat) : Int), .slice (some ⟨g, k, none⟩) 32 c] W fun x W' => x = .returned (.int .i64 (chE A)) ∧ Kb w W' M p (wrA A i bs) := by
  obtain ⟨D, hn, hM, hs⟩ := h.step
  refine (nWrite_any hn i hi _ _ bs hu (fun _ k hk => ?_) hb).mono fun x W' ⟨hx, hN⟩ => ⟨hx, hs _ _ hN⟩
  simp [Value.ownBlock] at hk
  subst hk
  exact ⟨hM _ hm, (Array.getElem?_eq_some_iff.1 (h.ce _ hm)).1⟩
theorem kbHead (h : Kb w W M p A) (hd : A.dead = false) (i : Nat) (hi : i < 2) : Calls Try.prog 78 #[.pointer (some ⟨p, 0, none⟩), .int .i64 ((i : Nat) : Int)] W fun x W' => ∃ a c, x = .returned (.slice a 32 c) ∧ Bytes W' (.slice a 32 c) (A.sh i) ∧ Kb w W' M p A := by
  obtain ⟨D, v, h1, _⟩ := h.dsk
  refine (head_ok h1 hd i hi).mono ?_
  rintro e W' ⟨r, rfl, hF⟩
  obtain ⟨a, c, rfl, _⟩ := hF.1.form
  have hl : (A.sh i).length = 32 := h1.ok.sh i hi
  rw [hl] at hF ⊢
  exact ⟨a, c, rfl, hF.1, h.later hF.2.2⟩
theorem kbNew (hw : Below w.heap.size w W) (hM : ∀ q ∈ M, W.heap[q.1]? = some q.2) (c : Int) (h0 : 0 ≤ c) (h1 : c ≤ 1048576) : Calls Try.prog 31 #[.int .i64 c] W fun x W' => ∃ p, x = .returned (.tuple #[.pointer (some ⟨p, 0, none⟩), .int .i64 0]) ∧ Kb w W' M p (AD.new c) :=
  (new_at c h0 h1 W W.heap.size rfl).mono fun _ _ ⟨hx, hN, _, hb⟩ => ⟨_, hx, Kb.start hw hM hN rfl hb⟩
end
end Go.Proofs.Ytflfiobicapopaa

namespace Go.Proofs.Ytflfiobicapopaa

/-- A record: its kind, its bytes. -/
structure RecD where
  k : UInt8
  d : List UInt8

/-- A number's four bytes, the lowest first. -/
def four (n : Nat) : List UInt8 := [UInt8.ofNat (n % 256), UInt8.ofNat (n / 256 % 256), UInt8.ofNat (n / 65536 % 256), UInt8.ofNat (n / 16777216 % 256)]
def RecD.rest (r : RecD) : List UInt8 := r.k :: (four r.d.length ++ r.d)
/-- A record's bytes as written. -/
def RecD.put (r : RecD) : List UInt8 := four (sumB r.rest) ++ r.rest
/-- A right record. -/
def RecD.right (r : RecD) : Prop := (1 ≤ r.k.toNat ∧ r.k.toNat ≤ 2) ∧ r.d.length ≤ 4096

/-- What Put answers: the error, or 0. -/
def putErr (r : RecD) : Int := if r.k.toNat < 1 ∨ 2 < r.k.toNat then 30 else if 4096 < r.d.length then 31 else 0
/-- Why bytes begin with no record, or 0. -/
def takeErr (b : List UInt8) : Int :=
  if b.length < 9 then 32 else if 4096 < le ((b.drop 5).take 4) then 31 else if b.length < 9 + le ((b.drop 5).take 4) then 32
  else if sumB ((b.drop 4).take (5 + le ((b.drop 5).take 4))) ≠ le (b.take 4) then 33 else if (b.getD 4 0).toNat < 1 ∨ 2 < (b.getD 4 0).toNat then 30 else 0
/-- How many bytes the record that b begins with takes (0: none). -/
def takeLen (b : List UInt8) : Nat := if takeErr b = 0 then 9 + le ((b.drop 5).take 4) else 0
/-- The record that b begins with. -/
def takeRec (b : List UInt8) : RecD := if takeErr b = 0 then ⟨b.getD 4 0, (b.drop 9).take (le ((b.drop 5).take 4))⟩ else ⟨0, []⟩

theorem four_len (n : Nat) : (four n).length = 4 := rfl
theorem u8_of (n : Nat) (h : n < 256) : (UInt8.ofNat n).toNat = n := by rw [UInt8.toNat_ofNat']; exact Nat.mod_eq_of_lt (by simpa using h)
theorem le_four {n : Nat} (h : n < 4294967296) : le (four n) = n := by
  show (UInt8.ofNat (n % 256)).toNat + 256 * ((UInt8.ofNat (n / 256 % 256)).toNat + 256 * ((UInt8.ofNat (n / 65536 % 256)).toNat + 256 * ((UInt8.ofNat (n / 16777216 % 256)).toNat + 256 * 0))) = n
  rw [u8_of _ (by omega), u8_of _ (by omega), u8_of _ (by omega), u8_of _ (by omega)]
  omega
theorem le_take4_lt (b : List UInt8) : le (b.take 4) < 4294967296 := by
  have h := le_lt (b.take 4)
  have h2 : 2 ^ (8 * (b.take 4).length) ≤ 2 ^ 32 := Nat.pow_le_pow_right (by decide) (by rw [List.length_take]; omega)
  omega

theorem le_inj : ∀ (a b : List UInt8), a.length = b.length → le a = le b → a = b
  | [], [], _, _ => rfl
  | x :: a, y :: b, hl, h => by
    have hx := x.toNat_lt
    have hy := y.toNat_lt
    have h' : x.toNat + 256 * le a = y.toNat + 256 * le b := h
    have e1 : x.toNat = y.toNat := by omega
    have e2 : le a = le b := by omega
    rw [UInt8.toNat_inj.1 e1, le_inj a b (by simpa using hl) e2]
/-- Four bytes are those of their number. -/
theorem four_le (b : List UInt8) (h : b.length = 4) : four (le b) = b := by
  have h1 := le_lt b
  rw [h] at h1
  exact le_inj _ _ (by rw [h]; rfl) (le_four (by omega))

theorem rest_len (r : RecD) : r.rest.length = 5 + r.d.length := by
  show (four r.d.length ++ r.d).length + 1 = _
  rw [List.length_append, four_len]; omega
theorem put_len (r : RecD) : r.put.length = 9 + r.d.length := by
  unfold RecD.put
  rw [List.length_append, four_len, rest_len]; omega

theorem putErr_zero {r : RecD} : putErr r = 0 ↔ r.right := by
  unfold putErr RecD.right
  constructor
  · intro h
    split at h
    · cases h
    · split at h
      · cases h
      · omega
  · rintro ⟨h1, h2⟩
    rw [if_neg (by omega), if_neg (by omega)]

/-- What is put is taken, whatever stands behind. -/
theorem take_put (r : RecD) (hr : r.right) (more : List UInt8) : takeErr (r.put ++ more) = 0 ∧ takeLen (r.put ++ more) = 9 + r.d.length ∧ takeRec (r.put ++ more) = r := by
  have hl : (r.put ++ more).length = 9 + r.d.length + more.length := by rw [List.length_append, put_len]
  have e4 : (r.put ++ more).drop 4 = r.rest ++ more := rfl
  have e5 : ((r.put ++ more).drop 5).take 4 = four r.d.length := rfl
  have hd : r.d.length < 4294967296 := by have := hr.2; omega
  have en : le (((r.put ++ more).drop 5).take 4) = r.d.length := by rw [e5, le_four hd]
  have es : ((r.put ++ more).drop 4).take (5 + r.d.length) = r.rest := by rw [e4, ← rest_len, List.take_left]
  have et : (r.put ++ more).take 4 = four (sumB r.rest) := rfl
  have ek : (r.put ++ more).getD 4 0 = r.k := rfl
  have e9 : (r.put ++ more).drop 9 = r.d ++ more := rfl
  have h0 : takeErr (r.put ++ more) = 0 := by
    unfold takeErr
    rw [en, es, et, le_four (sum_lt _), ek]
    have h1 := hr.1
    have h2 := hr.2
    rw [if_neg (by omega), if_neg (by omega), if_neg (by omega), if_neg (by simp), if_neg (by omega)]
  refine ⟨h0, ?_, ?_⟩
  · unfold takeLen; rw [if_pos h0, en]
  · unfold takeRec; rw [if_pos h0, en, e9, List.take_left, ek]

theorem put_inj {r s : RecD} (hr : r.right) (hs : s.right) (h : r.put = s.put) : r = s := by
  have h1 := (take_put r hr []).2.2
  have h2 := (take_put s hs []).2.2
  rw [h] at h1
  exact h1.symm.trans h2

/-- What is taken was put. -/
theorem put_take (b : List UInt8) (h : takeErr b = 0) : (takeRec b).right ∧ (takeRec b).put = b.take (takeLen b) ∧ takeLen b ≤ b.length ∧ 9 ≤ takeLen b ∧ takeLen b = 9 + (takeRec b).d.length := by
  have h0 := h
  unfold takeErr at h
  split at h
  · cases h
  rename_i g1
  split at h
  · cases h
  rename_i g2
  split at h
  · cases h
  rename_i g3
  split at h
  · cases h
  rename_i g4
  split at h
  · cases h
  rename_i g5
  have g4' : sumB ((b.drop 4).take (5 + le ((b.drop 5).take 4))) = le (b.take 4) := by
    by_cases e : sumB ((b.drop 4).take (5 + le ((b.drop 5).take 4))) = le (b.take 4)
    · exact e
    · exact absurd e g4
  have el : takeLen b = 9 + le ((b.drop 5).take 4) := by unfold takeLen; rw [if_pos h0]
  have er : takeRec b = ⟨b.getD 4 0, (b.drop 9).take (le ((b.drop 5).take 4))⟩ := by unfold takeRec; rw [if_pos h0]
  obtain ⟨n, hn⟩ : ∃ n, n = le ((b.drop 5).take 4) := ⟨_, rfl⟩
  rw [← hn] at g2 g3 g4' el er
  have hdl : (takeRec b).d.length = n := by rw [er]; show ((b.drop 9).take n).length = n; rw [List.length_take, List.length_drop]; omega
  have ef : four n = (b.drop 5).take 4 := by rw [hn]; exact four_le _ (by rw [List.length_take, List.length_drop]; omega)
  have hrest : (takeRec b).rest = (b.drop 4).take (5 + n) := by
    unfold RecD.rest
    rw [hdl, ef, er]
    show b.getD 4 0 :: ((b.drop 5).take 4 ++ (b.drop 9).take n) = _
    have e1 : b.drop 4 = b.getD 4 0 :: b.drop 5 := by
      rw [List.drop_eq_getElem_cons (show 4 < b.length by omega), List.getD_eq_getElem?_getD, List.getElem?_eq_getElem (show 4 < b.length by omega)]; rfl
    have e2 : (b.drop 5).take (4 + n) = (b.drop 5).take 4 ++ (b.drop 9).take n := by
      rw [List.take_add, List.drop_drop]
    rw [e1, show 5 + n = (4 + n) + 1 by omega, List.take_succ_cons, e2]
  refine ⟨⟨by rw [er]; exact ⟨by show 1 ≤ (b.getD 4 0).toNat; omega, by show (b.getD 4 0).toNat ≤ 2; omega⟩, by rw [hdl]; omega⟩, ?_, by omega, by omega, by rw [hdl, el]⟩
  unfold RecD.put
  rw [hrest, g4', four_le _ (by rw [List.length_take]; omega), el, show 9 + n = 4 + (5 + n) by omega, List.take_add (i := 4) (j := 5 + n)]
end Go.Proofs.Ytflfiobicapopaa

namespace Go.Proofs.Ytflfiobicapopaa
open Go.RowKit

set_option maxHeartbeats 400000 in
theorem low_anew (u : Value) (bs : List UInt8) (w : World) (h : Bytes w u bs) (hl : bs.length ≤ 1048576) : Calls Try.prog 27 #[u] w fun e w' => ∃ r, e = .returned r ∧ FreshO w w' r bs := by
  obtain ⟨ti, hti, hz0, hz1, hz2⟩ := infoByte
  have HO := hide (own_nil w)
  have HU := hide (h.alloc (.cells #[] 5))
  have HL := hide hl
  clear h hl
  go_enter Try.func27, Try.ntmps27
  go_wp2_with (at_builtin; refine wpList_append_bytes _ rfl _ _ 49 rfl 5 ti (.int .u8 0) Try.underlying49 hti hz0 hz1 hz2 rfl _ [] rfl (unhide HO) _ bs rfl (unhide HU) (by have := unhide HL; simp; omega) ?_)
  rintro v' w1 r1 r2 r3
  have r1 : w1.ownsRow 0 5 1 v' bs.length (bs.map bv) := by simpa using r1
  obtain ⟨hb, hv⟩ := grown_below ((Below.refl _ w).alloc (Nat.le_refl _) _) (fun k hk => by simp [Value.ownBlock] at hk; omega) r2 (r3.imp id fun ⟨k, e, hle⟩ => ⟨k, e, by simpa using hle⟩)
  have HF : Hid (FreshO w w1 v' bs) := ⟨⟨bytes_of_owns r1, fun k hk => ⟨hv k hk, (r1.lt k hk).2⟩, hb⟩, r1⟩
  clear r1 r2 r3 hb hv
  go_wp2
  go_ret
  exact ⟨v', rfl, unhide HF⟩

/-- Are two records the same? -/
def sameRec (r s : RecD) : Bool := decide (r.k = s.k) && decide (r.d = s.d)
theorem sameRec_iff (r s : RecD) : sameRec r s = true ↔ r = s := by
  unfold sameRec
  rw [Bool.and_eq_true, decide_eq_true_iff, decide_eq_true_iff]
  constructor
  · rintro ⟨h1, h2⟩; cases r; cases s; simp_all
  · rintro rfl; exact ⟨rfl, rfl⟩

/-- A row of records in memory. -/
def RecsAt (w : World) (u : Value) (rs : List RecD) : Prop := ((∃ a c, u = .slice a 0 c) ∧ rs = []) ∨ ∃ b o c, u = .slice (some ⟨b, o, none⟩) rs.length c ∧ rs.length ≤ c ∧
  ∀ i, i < rs.length → ∃ a n c', w.cell? ⟨b, o + 2 * i, none⟩ = some (.int .u8 ((rs.getD i ⟨0, []⟩).k.toNat : Nat)) ∧ w.cell? ⟨b, o + 2 * i + 1, none⟩ = some (.slice a n c') ∧ Bytes w (.slice a n c') (rs.getD i ⟨0, []⟩).d

theorem RecsAt.form {w : World} {u : Value} {rs : List RecD} (h : RecsAt w u rs) : ∃ a c, u = .slice a rs.length c ∧ rs.length ≤ c := by
  rcases h with ⟨⟨a, c, rfl⟩, rfl⟩ | ⟨b, o, c, rfl, hl, _⟩
  · exact ⟨_, _, rfl, Nat.zero_le _⟩
  · exact ⟨_, _, rfl, hl⟩
theorem RecsAt.at {w : World} {a : Option Addr} {n c : Nat} {rs : List RecD} (h : RecsAt w (.slice a n c) rs) {i : Nat} (hi : i < n) (hl : rs.length = n) : ∃ b o a' n' c', a = some ⟨b, o, none⟩ ∧ w.cell? ⟨b, o + 2 * i, none⟩ = some (.int .u8 ((rs.getD i ⟨0, []⟩).k.toNat : Nat)) ∧ w.cell? ⟨b, o + 2 * i + 1, none⟩ = some (.slice a' n' c') ∧ Bytes w (.slice a' n' c') (rs.getD i ⟨0, []⟩).d := by
  rcases h with ⟨_, rfl⟩ | ⟨b, o, c', hv, _, hr⟩
  · simp at hl; omega
  · simp only [Value.slice.injEq] at hv
    obtain ⟨rfl, _, rfl⟩ := hv
    obtain ⟨a', n', c'', h1, h2, h3⟩ := hr i (by omega)
    exact ⟨b, o, a', n', c'', rfl, h1, h2, h3⟩
theorem RecsAt.later {w w' : World} {u : Value} {rs : List RecD} (h : RecsAt w u rs) (hb : Below w.heap.size w w') : RecsAt w' u rs := by
  rcases h with h | ⟨b, o, c, hv, hl, hr⟩
  · exact .inl h
  · refine .inr ⟨b, o, c, hv, hl, fun i hi => ?_⟩
    obtain ⟨a', n', c', h1, h2, h3⟩ := hr i hi
    refine ⟨a', n', c', ?_, ?_, h3.kept fun k _ hk => hb.block k hk⟩
    · rw [hb.cell (p := ⟨b, o + 2 * i, none⟩) (World.block_lt_of_cell? _ _ h1)]; exact h1
    · rw [hb.cell (p := ⟨b, o + 2 * i + 1, none⟩) (World.block_lt_of_cell? _ _ h2)]; exact h2
end Go.Proofs.Ytflfiobicapopaa

namespace Go.Proofs.Ytflfiobicapopaa
open Go.RowKit

/-- Bit by bit. -/
theorem bit_step (r x : Nat) : hv (r ^^^ x) = (if (r + x) % 2 = 1 then r / 2 ^^^ crcPoly else r / 2) ^^^ x / 2 := by
  unfold hv
  rw [xor_mod2, Nat.xor_div_two]
  split
  · rw [Nat.xor_assoc, Nat.xor_assoc, Nat.xor_comm (x / 2)]
  · rfl

/-- The sum goes on byte by byte. -/
theorem sum_take (bs : List UInt8) (j : Nat) (hj : j < bs.length) : sumB (bs.take (j + 1)) = nx (sumB (bs.take j)) (bs.getD j 0).toNat := by
  rw [List.take_succ_eq_append_getElem hj, sum_snoc, List.getD_eq_getElem?_getD, List.getElem?_eq_getElem hj]
  rfl


end Go.Proofs.Ytflfiobicapopaa

namespace Go.Proofs.Ytflfiobicapopaa
open Go.RowKit

theorem four_take (n j : Nat) (hj : j < 4) : (four n).take (j + 1) = (four n).take j ++ [UInt8.ofNat (n / 256 ^ j % 256)] := by
  rcases (show j = 0 ∨ j = 1 ∨ j = 2 ∨ j = 3 by omega) with rfl | rfl | rfl | rfl
  · show [UInt8.ofNat (n % 256)] = [UInt8.ofNat (n / 1 % 256)]
    rw [Nat.div_one]
  all_goals rfl

/-- Four bytes, read. -/
theorem four_at {w : World} {a : Option Addr} {c : Nat} {bs : List UInt8} (h : Bytes w (.slice a 4 c) bs) : ∃ b o, a = some ⟨b, o, none⟩ ∧ w.cell? ⟨b, o, none⟩ = some (.int .u8 ((bs.getD 0 0).toNat : Nat)) ∧ w.cell? ⟨b, o + 1, none⟩ = some (.int .u8 ((bs.getD 1 0).toNat : Nat)) ∧ w.cell? ⟨b, o + 2, none⟩ = some (.int .u8 ((bs.getD 2 0).toNat : Nat)) ∧ w.cell? ⟨b, o + 3, none⟩ = some (.int .u8 ((bs.getD 3 0).toNat : Nat)) := by
  obtain ⟨hl, _⟩ := bytes_len h
  obtain ⟨ad, rfl, h0⟩ := h.at (i := 0) (by omega) hl
  obtain ⟨_, e1, h1⟩ := h.at (i := 1) (by omega) hl
  obtain ⟨_, e2, h2⟩ := h.at (i := 2) (by omega) hl
  obtain ⟨_, e3, h3⟩ := h.at (i := 3) (by omega) hl
  cases e1; cases e2; cases e3
  obtain ⟨b, o, spot⟩ := ad
  have hspot : spot = none := by simpa [Addr.add] using World.cell?_spot h0
  subst hspot
  rw [Addr.add_mid] at h0 h1 h2 h3
  exact ⟨b, o, rfl, h0, h1, h2, h3⟩
theorem le_four_bytes (bs : List UInt8) (h : bs.length = 4) : le bs = (bs.getD 0 0).toNat + 256 * (bs.getD 1 0).toNat + 65536 * (bs.getD 2 0).toNat + 16777216 * (bs.getD 3 0).toNat := by
  match bs, h with
  | [a, b, c, d], _ =>
    show a.toNat + 256 * (b.toNat + 256 * (c.toNat + 256 * (d.toNat + 256 * 0))) = a.toNat + 256 * b.toNat + 65536 * c.toNat + 16777216 * d.toNat
    omega


end Go.Proofs.Ytflfiobicapopaa

namespace Go.Proofs.Ytflfiobicapopaa
open Go.RowKit

/-- What Put answers: the bytes. -/
def putOf (r : RecD) : List UInt8 := if putErr r = 0 then r.put else []


end Go.Proofs.Ytflfiobicapopaa

namespace Go.Proofs.Ytflfiobicapopaa
open Go.RowKit

/-- What Take answers, in memory. -/
def TookAt (w : World) (b : List UInt8) (e : Ending) (w' : World) : Prop := ∃ a n c, e = .returned (.tuple #[.agg #[.int .u8 ((takeRec b).k.toNat : Nat), .slice a n c], .int .i64 (takeLen b : Nat), .int .i64 (takeErr b)]) ∧ FreshO w w' (.slice a n c) (takeRec b).d

theorem took_none {w w' : World} {b : List UInt8} {x : Int} (he : takeErr b = x) (hx : x ≠ 0) (hb : Below w.heap.size w w') : TookAt w b (.returned (.tuple #[.agg #[.int .u8 0, .slice none 0 0], .int .i64 0, .int .i64 x])) w' := by
  have h0 : ¬ takeErr b = 0 := by rw [he]; exact hx
  refine ⟨none, 0, 0, ?_, ?_⟩
  · have e1 : takeRec b = ⟨0, []⟩ := if_neg h0
    have e2 : takeLen b = 0 := if_neg h0
    rw [e1, e2, he]; rfl
  · have e1 : takeRec b = ⟨0, []⟩ := if_neg h0
    rw [e1]
    exact ⟨⟨.inl ⟨rfl, rfl⟩, fun k hk => (by cases hk), hb⟩, own_none _⟩

theorem set2_heap {W : World} {g : Nat} {v0 v1 : Value} {t : TypeId} (h : W.heap[g]? = some (.cells #[v0, v1] t (0, 0))) (x y : Value) : ((W.setCell ⟨g, 0, none⟩ x).setCell ⟨g, 1, none⟩ y).heap[g]? = some (.cells #[x, y] t (0, 0)) := by
  rw [heap_setCell_same _ _ _ _ _ _ (heap_setCell_same _ _ _ _ _ _ h)]; rfl
theorem set2_below {w W : World} {g : Nat} (h : Below w.heap.size w W) (hg : w.heap.size ≤ g) (x y : Value) : Below w.heap.size w ((W.setCell ⟨g, 0, none⟩ x).setCell ⟨g, 1, none⟩ y) := (h.setCell (p := ⟨g, 0, none⟩) hg x).setCell (p := ⟨g, 1, none⟩) hg y

section
variable (a : Option Addr) (n c : Nat) (b : List UInt8) (w : World)


end
end Go.Proofs.Ytflfiobicapopaa

namespace Go.Proofs.Ytflfiobicapopaa
open Go.RowKit

theorem byte_spot {w : World} {a : Option Addr} {n c : Nat} {bs : List UInt8} (h : Bytes w (.slice a n c) bs) (hi : 0 < n) : ∃ b o, a = some ⟨b, o, none⟩ := by
  obtain ⟨hl, _⟩ := bytes_len h
  obtain ⟨ad, rfl, h0⟩ := h.at (i := 0) hi hl
  obtain ⟨b, o, spot⟩ := ad
  have hspot : spot = none := by simpa [Addr.add] using World.cell?_spot h0
  subst hspot
  exact ⟨b, o, rfl⟩
theorem byte_at {w : World} {b o n c i : Nat} {bs : List UInt8} (h : Bytes w (.slice (some ⟨b, o, none⟩) n c) bs) (hi : i < n) : w.cell? ⟨b, o + i, none⟩ = some (.int .u8 ((bs.getD i 0).toNat : Nat)) := by
  obtain ⟨ad, e, h0⟩ := h.at hi (bytes_len h).1
  cases e
  rw [Addr.add_mid] at h0
  exact h0
/-- A row under way stays while another block's cells are set. -/
theorem Own.set2 {w W : World} {v : Value} {bs : List UInt8} (h : Own w v bs W) {g : Nat} (hg : w.heap.size ≤ g) (hv : ∀ k, v.ownBlock = some k → g < k) (x y : Value) : Own w v bs ((W.setCell ⟨g, 0, none⟩ x).setCell ⟨g, 1, none⟩ y) :=
  ⟨own_keeps h.own fun k hk => by have := hv k hk; rw [Below.heap_setCell _ _ _ _ (by show k ≠ g; omega), Below.heap_setCell _ _ _ _ (by show k ≠ g; omega)], h.new, set2_below h.bb hg x y⟩

section
variable (bb o n c : Nat) (b : List UInt8) (w : World)


end
end Go.Proofs.Ytflfiobicapopaa
