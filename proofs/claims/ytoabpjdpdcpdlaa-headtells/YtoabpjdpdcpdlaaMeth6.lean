/- What Crash does. No statement of the seat is proved here. -/
import Derived.Test.YtoabpjdpdcpdlaaMeth5
namespace Go.Proofs.Ytoabpjdpdcpdlaa
open Go.RowKit

section
variable {w : World} {p : Nat} {D : Nat → Prop} {v : Nat → Value} {A : AD}

theorem Step.notOwn {D E : Nat → Prop} {a b : World} (h : Step D E a b) {k : Nat} (hk : k < a.heap.size) (hn : ¬ D k) : ¬ E k := fun hx => (h.own k hx).elim hn (fun h2 => by omega)

theorem segCrash0 (h : DiskIs w p D v A) (k : Int) : Calls Try.prog 44 #[.pointer (some ⟨p, 2, none⟩), .int .i64 k] w fun e w' => e = .returned (.tuple #[]) ∧ Now D p (A.crashSeg 0 k) w w' := segCrash_any h 0 (by omega) k
theorem segCrash1 (h : DiskIs w p D v A) (k : Int) : Calls Try.prog 44 #[.pointer (some ⟨p, 4, none⟩), .int .i64 k] w fun e w' => e = .returned (.tuple #[]) ∧ Now D p (A.crashSeg 1 k) w w' := segCrash_any h 1 (by omega) k
theorem slotCrash0 (h : DiskIs w p D v A) (k : Int) : Calls Try.prog 45 #[.pointer (some ⟨p, 6, none⟩), .int .i64 k] w fun e w' => e = .returned (.tuple #[]) ∧ Now D p (A.crashSlot 0 k) w w' := slotCrash_any h 0 (by omega) k
theorem slotCrash1 (h : DiskIs w p D v A) (k : Int) : Calls Try.prog 45 #[.pointer (some ⟨p, 70, none⟩), .int .i64 k] w fun e w' => e = .returned (.tuple #[]) ∧ Now D p (A.crashSlot 1 k) w w' := slotCrash_any h 1 (by omega) k

theorem four_cells (w : World) (a b c d : Value) (t : TypeId) : (w.alloc (.cells #[a, b, c, d] t)).cell? ⟨w.heap.size, 0, none⟩ = some a ∧ (w.alloc (.cells #[a, b, c, d] t)).cell? ⟨w.heap.size, 1, none⟩ = some b ∧
    (w.alloc (.cells #[a, b, c, d] t)).cell? ⟨w.heap.size, 2, none⟩ = some c ∧ (w.alloc (.cells #[a, b, c, d] t)).cell? ⟨w.heap.size, 3, none⟩ = some d := by
  have h : (w.alloc (.cells #[a, b, c, d] t)).heap[w.heap.size]? = some (.cells #[a, b, c, d] t (0, 0)) := heap_alloc_new w _
  exact ⟨cell_of_row _ _ 0 _ _ _ h, cell_of_row _ _ 1 _ _ _ h, cell_of_row _ _ 2 _ _ _ h, cell_of_row _ _ 3 _ _ _ h⟩

set_option maxHeartbeats 1000000 in
theorem crash_any (h : DiskIs w p D v A) (k : Nat → Int) : Calls Try.prog 27 #[.pointer (some ⟨p, 0, none⟩), .agg #[.int .i64 (k 0), .int .i64 (k 1), .int .i64 (k 2), .int .i64 (k 3)]] w fun e w' => e = .returned (.tuple #[]) ∧ Now D p (A.crashed k) w w' := by
  obtain ⟨c0, c1, c2, c3⟩ := four_cells w (.int .i64 (k 0)) (.int .i64 (k 1)) (.int .i64 (k 2)) (.int .i64 (k 3)) 45
  have n0 : ¬ D w.heap.size := h.fresh _ (by omega)
  have HD := hide (h.alloc (.cells #[.int .i64 (k 0), .int .i64 (k 1), .int .i64 (k 2), .int .i64 (k 3)] 45))
  have HS : Hid (Step D D w (w.alloc (.cells #[.int .i64 (k 0), .int .i64 (k 1), .int .i64 (k 2), .int .i64 (k 3)] 45))) := (Step.refl D w).alloc _
  clear h
  have a0 : IntKind.i64.wrap 2 = 2 := by decide
  have a1 : IntKind.i64.wrap 3 = 3 := by decide
  have a2 : IntKind.i64.wrap (2 + 0) = 2 := by decide
  have a3 : IntKind.i64.wrap (2 + 1) = 3 := by decide
  go_enter Try.func27, Try.ntmps27
  go_wp2_with (go_at_call 43; refine (made_yes (unhide HD)).mono ?_; rintro e w' ⟨rfl, rfl⟩)
  refine wp_loop_rounds 3 ?_
  rw [rounds_succ]; go_wp2
  go_region_held3 (fun w' => w'.cell? ⟨w.heap.size, 0, none⟩ = some (.int .i64 (k 0)) ∧ w'.cell? ⟨w.heap.size, 1, none⟩ = some (.int .i64 (k 1)) ∧ w'.cell? ⟨w.heap.size, 2, none⟩ = some (.int .i64 (k 2)) ∧ w'.cell? ⟨w.heap.size, 3, none⟩ = some (.int .i64 (k 3))) (go_keep)
    (first | (go_at_call 44; refine (segCrash0 ((unhide HD).drewN _) _).mono ?_; rintro e w1 ⟨rfl, D1, v1, hD1, hS1⟩; have q10 := hS1.cell (p := ⟨w.heap.size, 0, none⟩) c0 n0; have q11 := hS1.cell (p := ⟨w.heap.size, 1, none⟩) c1 n0; have q12 := hS1.cell (p := ⟨w.heap.size, 2, none⟩) c2 n0; have q13 := hS1.cell (p := ⟨w.heap.size, 3, none⟩) c3 n0))
  have n1 : ¬ D1 w.heap.size := hS1.notOwn (World.block_lt_of_cell? _ ⟨w.heap.size, 0, none⟩ c0) n0
  have HD1 := hide hD1
  have HS1 := hide hS1
  clear hD1 hS1
  clear c0 c1 c2 c3
  go_wp2
  rw [rounds_succ]; go_wp2
  go_region_held3 (fun w' => w'.cell? ⟨w.heap.size, 0, none⟩ = some (.int .i64 (k 0)) ∧ w'.cell? ⟨w.heap.size, 1, none⟩ = some (.int .i64 (k 1)) ∧ w'.cell? ⟨w.heap.size, 2, none⟩ = some (.int .i64 (k 2)) ∧ w'.cell? ⟨w.heap.size, 3, none⟩ = some (.int .i64 (k 3))) (go_keep)
    (first | (go_at_call 44; refine (segCrash1 ((unhide HD1).drewN _) _).mono ?_; rintro e w2 ⟨rfl, D2, v2, hD2, hS2⟩; have q20 := hS2.cell (p := ⟨w.heap.size, 0, none⟩) q10 n1; have q21 := hS2.cell (p := ⟨w.heap.size, 1, none⟩) q11 n1; have q22 := hS2.cell (p := ⟨w.heap.size, 2, none⟩) q12 n1; have q23 := hS2.cell (p := ⟨w.heap.size, 3, none⟩) q13 n1))
  have n2 : ¬ D2 w.heap.size := hS2.notOwn (World.block_lt_of_cell? _ ⟨w.heap.size, 0, none⟩ q10) n1
  have HD2 := hide hD2
  have HS2 := hide hS2
  clear hD2 hS2
  clear q10 q11 q12 q13
  go_wp2
  rw [rounds_succ]; go_wp2
  refine wp_loop_rounds 3 ?_
  rw [rounds_succ]; go_wp2
  go_region_held3 (fun w' => w'.cell? ⟨w.heap.size, 0, none⟩ = some (.int .i64 (k 0)) ∧ w'.cell? ⟨w.heap.size, 1, none⟩ = some (.int .i64 (k 1)) ∧ w'.cell? ⟨w.heap.size, 2, none⟩ = some (.int .i64 (k 2)) ∧ w'.cell? ⟨w.heap.size, 3, none⟩ = some (.int .i64 (k 3))) (go_keep)
    (first | (go_at_call 45; refine (slotCrash0 ((unhide HD2).drewN _) _).mono ?_; rintro e w3 ⟨rfl, D3, v3, hD3, hS3⟩; have q30 := hS3.cell (p := ⟨w.heap.size, 0, none⟩) q20 n2; have q31 := hS3.cell (p := ⟨w.heap.size, 1, none⟩) q21 n2; have q32 := hS3.cell (p := ⟨w.heap.size, 2, none⟩) q22 n2; have q33 := hS3.cell (p := ⟨w.heap.size, 3, none⟩) q23 n2))
  have n3 : ¬ D3 w.heap.size := hS3.notOwn (World.block_lt_of_cell? _ ⟨w.heap.size, 0, none⟩ q20) n2
  have HD3 := hide hD3
  have HS3 := hide hS3
  clear hD3 hS3
  clear q20 q21 q22 q23
  go_wp2
  rw [rounds_succ]; go_wp2
  go_region_held3 (fun w' => w'.cell? ⟨w.heap.size, 0, none⟩ = some (.int .i64 (k 0)) ∧ w'.cell? ⟨w.heap.size, 1, none⟩ = some (.int .i64 (k 1)) ∧ w'.cell? ⟨w.heap.size, 2, none⟩ = some (.int .i64 (k 2)) ∧ w'.cell? ⟨w.heap.size, 3, none⟩ = some (.int .i64 (k 3))) (go_keep)
    (first | (go_at_call 45; refine (slotCrash1 ((unhide HD3).drewN _) _).mono ?_; rintro e w4 ⟨rfl, D4, v4, hD4, hS4⟩; have q40 := hS4.cell (p := ⟨w.heap.size, 0, none⟩) q30 n3; have q41 := hS4.cell (p := ⟨w.heap.size, 1, none⟩) q31 n3; have q42 := hS4.cell (p := ⟨w.heap.size, 2, none⟩) q32 n3; have q43 := hS4.cell (p := ⟨w.heap.size, 3, none⟩) q33 n3))
  have n4 : ¬ D4 w.heap.size := hS4.notOwn (World.block_lt_of_cell? _ ⟨w.heap.size, 0, none⟩ q30) n3
  have HD4 := hide hD4
  have HS4 := hide hS4
  clear hD4 hS4
  clear q30 q31 q32 q33 q40 q41 q42 q43
  have g1 := (unhide HD4).calls
  have g2 := (unhide HD4).part
  have g3 := (unhide HD4).dead
  have f1 := (unhide HD4).frz 134
  have f2 := (unhide HD4).frz 135
  have f3 := (unhide HD4).frz 136
  go_wp2
  rw [rounds_succ]; go_wp2
  go_end0
  refine ⟨rfl, D4, v4, (((unhide HD4).setCalls (-1) (by omega)).setPart 0).setDead false, ?_⟩
  have hs := (((((((unhide HS).drewN 1).trans (unhide HS1)).drewN 1).trans (unhide HS2)).drewN 1).trans (unhide HS3)).drewN 1 |>.trans (unhide HS4)
  exact ((hs.setCell (p := ⟨p, 134, none⟩) (unhide HD4).own _).setCell (p := ⟨p, 135, none⟩) (unhide HD4).own _).setCell (p := ⟨p, 136, none⟩) (unhide HD4).own _
end
end Go.Proofs.Ytoabpjdpdcpdlaa
