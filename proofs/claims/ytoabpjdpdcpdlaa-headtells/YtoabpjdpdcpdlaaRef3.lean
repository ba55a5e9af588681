/- What the functions of the document's own disk (foremanref01) do: All, Read, Head, Free. No statement of the seat is proved here. -/
import Derived.Test.YtoabpjdpdcpdlaaRef2
import Derived.Deep.DeepCutAuto
namespace Go.Proofs.Ytoabpjdpdcpdlaa
open Go.RowKit

/-- Fresh since a world that is later: fresh since the earlier one. -/
theorem fresh_from {w w1 w2 : World} {r : Value} {bs : List UInt8} (hb : Below w.heap.size w w1) (hF : Fresh w1 w2 r bs) : Fresh w w2 r bs := by
  have hs := hb.size
  exact ⟨hF.1, fun k hk => ⟨by have := (hF.2.1 k hk).1; omega, (hF.2.1 k hk).2⟩, hb.trans (hF.2.2.mono hs)⟩

section
variable (c : Int) (P : Nat → Option Addr) (N C : Nat → Nat) (h : Bool) (n k : Int) (d : Bool) (w : World)

set_option maxHeartbeats 2000000 in
theorem all_at0 (x0 x1 : List UInt8) (h0 : Bytes w (.slice (P 0) (N 0) (C 0)) x0) (h1 : Bytes w (.slice (P 1) (N 1) (C 1)) x1) (hl : x0.length + x1.length ≤ 140737488355328) :
    Calls Try.prog 65 #[.agg (rl c P N C h n k d), .int .i64 0] w fun e w' => ∃ r, e = .returned r ∧ Fresh w w' r (x0 ++ x1) := by
  unfold rl
  have H0 := hide h0
  have H1 := hide h1
  have HL := hide hl
  clear h0 h1 hl
  go_enter Try.func65, Try.ntmps65
  go_upto_region 1 with fail
  generalize hw1 : w.alloc _ = w1
  have c1 : w1.cell? ⟨w.heap.size, 1, none⟩ = some (.slice (P 0) (N 0) (C 0)) := by rw [← hw1]; exact cell_of_row _ _ 1 _ _ _ (heap_alloc_new w _)
  have c2 : w1.cell? ⟨w.heap.size, 2, none⟩ = some (.slice (P 1) (N 1) (C 1)) := by rw [← hw1]; exact cell_of_row _ _ 2 _ _ _ (heap_alloc_new w _)
  have HB : Hid (Below w.heap.size w w1) := by show Below w.heap.size w w1; rw [← hw1]; exact (Below.refl _ w).alloc (Nat.le_refl _) _
  clear hw1
  go_region_held3 (fun w' => w'.cell? ⟨w.heap.size, 1, none⟩ = some (.slice (P 0) (N 0) (C 0)) ∧ w'.cell? ⟨w.heap.size, 2, none⟩ = some (.slice (P 1) (N 1) (C 1))) (go_keep)
    (first | (go_at_call 46; refine (join_any _ _ x0 x1 _ (by exact (unhide H0).kept fun k' _ hk' => by exact (unhide HB).block k' hk') (by exact (unhide H1).kept fun k' _ hk' => by exact (unhide HB).block k' hk') (unhide HL)).mono ?_; rintro e w2 ⟨r, rfl, hF⟩; have y1 := (hF.2.2.cell (p := ⟨w.heap.size, 1, none⟩) (World.block_lt_of_cell? w1 _ c1)).trans c1; have y2 := (hF.2.2.cell (p := ⟨w.heap.size, 2, none⟩) (World.block_lt_of_cell? w1 _ c2)).trans c2; have HF := hide hF; clear hF))
  have HFF := hide (fresh_from (unhide HB).drew (unhide HF))
  go_wp2
  go_ret
  exact ⟨r, rfl, unhide HFF⟩

set_option maxHeartbeats 2000000 in
theorem all_at1 (x0 x1 : List UInt8) (h0 : Bytes w (.slice (P 2) (N 2) (C 2)) x0) (h1 : Bytes w (.slice (P 3) (N 3) (C 3)) x1) (hl : x0.length + x1.length ≤ 140737488355328) :
    Calls Try.prog 65 #[.agg (rl c P N C h n k d), .int .i64 1] w fun e w' => ∃ r, e = .returned r ∧ Fresh w w' r (x0 ++ x1) := by
  unfold rl
  have H0 := hide h0
  have H1 := hide h1
  have HL := hide hl
  clear h0 h1 hl
  go_enter Try.func65, Try.ntmps65
  go_upto_region 1 with fail
  generalize hw1 : w.alloc _ = w1
  have c1 : w1.cell? ⟨w.heap.size, 3, none⟩ = some (.slice (P 2) (N 2) (C 2)) := by rw [← hw1]; exact cell_of_row _ _ 3 _ _ _ (heap_alloc_new w _)
  have c2 : w1.cell? ⟨w.heap.size, 4, none⟩ = some (.slice (P 3) (N 3) (C 3)) := by rw [← hw1]; exact cell_of_row _ _ 4 _ _ _ (heap_alloc_new w _)
  have HB : Hid (Below w.heap.size w w1) := by show Below w.heap.size w w1; rw [← hw1]; exact (Below.refl _ w).alloc (Nat.le_refl _) _
  clear hw1
  go_region_held3 (fun w' => w'.cell? ⟨w.heap.size, 3, none⟩ = some (.slice (P 2) (N 2) (C 2)) ∧ w'.cell? ⟨w.heap.size, 4, none⟩ = some (.slice (P 3) (N 3) (C 3))) (go_keep)
    (first | (go_at_call 46; refine (join_any _ _ x0 x1 _ (by exact (unhide H0).kept fun k' _ hk' => by exact (unhide HB).block k' hk') (by exact (unhide H1).kept fun k' _ hk' => by exact (unhide HB).block k' hk') (unhide HL)).mono ?_; rintro e w2 ⟨r, rfl, hF⟩; have y1 := (hF.2.2.cell (p := ⟨w.heap.size, 3, none⟩) (World.block_lt_of_cell? w1 _ c1)).trans c1; have y2 := (hF.2.2.cell (p := ⟨w.heap.size, 4, none⟩) (World.block_lt_of_cell? w1 _ c2)).trans c2; have HF := hide hF; clear hF))
  have HFF := hide (fresh_from (unhide HB).drew (unhide HF))
  go_wp2
  go_ret
  exact ⟨r, rfl, unhide HFF⟩
end
end Go.Proofs.Ytoabpjdpdcpdlaa
