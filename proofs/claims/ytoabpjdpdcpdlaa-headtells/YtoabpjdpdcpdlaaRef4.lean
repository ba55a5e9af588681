/- What the functions of the document's own disk (foremanref01) do: Read, Head, Free, Fuse. No statement of the seat is proved here. -/
import Derived.Test.YtoabpjdpdcpdlaaRef3
namespace Go.Proofs.Ytoabpjdpdcpdlaa
open Go.RowKit

theorem row13 {w : World} {g : Nat} {t : TypeId} {fr : Nat × Nat} {v0 v1 v2 v3 v4 v5 v6 v7 v8 v9 v10 v11 v12 : Value} (h : w.heap[g]? = some (.cells #[v0, v1, v2, v3, v4, v5, v6, v7, v8, v9, v10, v11, v12] t fr)) :
    w.cell? ⟨g, 0, none⟩ = some v0 ∧ w.cell? ⟨g, 1, none⟩ = some v1 ∧ w.cell? ⟨g, 2, none⟩ = some v2 ∧ w.cell? ⟨g, 3, none⟩ = some v3 ∧ w.cell? ⟨g, 4, none⟩ = some v4 ∧ w.cell? ⟨g, 5, none⟩ = some v5 ∧ w.cell? ⟨g, 6, none⟩ = some v6 ∧ w.cell? ⟨g, 7, none⟩ = some v7 ∧ w.cell? ⟨g, 8, none⟩ = some v8 ∧ w.cell? ⟨g, 9, none⟩ = some v9 ∧ w.cell? ⟨g, 10, none⟩ = some v10 ∧ w.cell? ⟨g, 11, none⟩ = some v11 ∧ w.cell? ⟨g, 12, none⟩ = some v12 :=
  ⟨cell_of_row w g 0 _ t fr h, cell_of_row w g 1 _ t fr h, cell_of_row w g 2 _ t fr h, cell_of_row w g 3 _ t fr h, cell_of_row w g 4 _ t fr h, cell_of_row w g 5 _ t fr h, cell_of_row w g 6 _ t fr h, cell_of_row w g 7 _ t fr h, cell_of_row w g 8 _ t fr h, cell_of_row w g 9 _ t fr h, cell_of_row w g 10 _ t fr h, cell_of_row w g 11 _ t fr h, cell_of_row w g 12 _ t fr h⟩

theorem lt_of_row {W : World} {k : Nat} {o : Obj} (h : W.heap[k]? = some o) : k < W.heap.size := by
  rcases Nat.lt_or_ge k W.heap.size with h1 | h1
  · exact h1
  · rw [Array.getElem?_eq_none h1] at h; cases h

theorem row_later {w w' : World} {g : Nat} {o : Obj} (h : w.heap[g]? = some o) (hb : Below w.heap.size w w') : w'.heap[g]? = some o := by rw [hb.block g (lt_of_row h)]; exact h

section
variable (c : Int) (P : Nat → Option Addr) (N C : Nat → Nat) (h : Bool) (n k : Int) (d : Bool) (w : World)

set_option maxHeartbeats 2000000 in
theorem ref_free_dead : Calls Try.prog 51 #[.agg (rl c P N C h n k true)] w fun e w' => e = .returned (.int .i64 0) ∧ Below w.heap.size w w' := by
  unfold rl
  go_enter Try.func51, Try.ntmps51
  go_wp2
  go_ret
  exact ⟨rfl, (Below.refl _ w).alloc (Nat.le_refl _) _⟩

set_option maxHeartbeats 4000000 in
theorem ref_free (x : Nat → List UInt8) (hb : ∀ j, j < 4 → Bytes w (.slice (P j) (N j) (C j)) (x j)) (hl : (x 0).length + (x 1).length ≤ 1048576 ∧ (x 2).length + (x 3).length ≤ 1048576) (hc : 0 ≤ c ∧ c ≤ 1048576) :
    Calls Try.prog 51 #[.agg (rl c P N C h n k false)] w fun e w' => e = .returned (.int .i64 (c - ((x 0).length + (x 1).length : Nat) - ((x 2).length + (x 3).length : Nat))) ∧ Below w.heap.size w w' := by
  obtain ⟨m0, hm0⟩ : ∃ m0 : Nat, m0 = (x 0).length + (x 1).length := ⟨_, rfl⟩
  obtain ⟨m1, hm1⟩ : ∃ m1 : Nat, m1 = (x 2).length + (x 3).length := ⟨_, rfl⟩
  rw [← hm0, ← hm1]
  have hw1 : IntKind.i64.wrap (c - (m0 : Int)) = c - (m0 : Int) := by rw [IntKind.wrap_i64]; omega
  have hw2 : IntKind.i64.wrap (c - (m0 : Int) - (m1 : Int)) = c - (m0 : Int) - (m1 : Int) := by rw [IntKind.wrap_i64]; omega
  have HB := hide hb
  have HL0 : Hid ((x 0).length + (x 1).length ≤ 140737488355328) := by show _ ≤ _; omega
  have HL1 : Hid ((x 2).length + (x 3).length ≤ 140737488355328) := by show _ ≤ _; omega
  have HM0 := hide hm0
  have HM1 := hide hm1
  clear hb hl hc hm0 hm1
  unfold rl
  go_enter Try.func51, Try.ntmps51
  go_upto_region 3 with fail
  generalize hww : w.alloc _ = w1
  have hg : w1.heap[w.heap.size]? = some (.cells (rl c P N C h n k false) 43 (0, 0)) := by rw [← hww]; exact heap_alloc_new w _
  obtain ⟨y0, y1, y2, y3, y4, y5, y6, y7, y8, y9, y10, y11, y12⟩ := row13 hg
  have HB1 : Hid (Below w.heap.size w w1.drew) := by show Below w.heap.size w w1.drew; rw [← hww]; exact ((Below.refl _ w).alloc (Nat.le_refl _) _).drew
  have HG : Hid (w1.drew.heap[w.heap.size]? = some (.cells (rl c P N C h n k false) 43 (0, 0))) := hg
  clear hww hg
  have HW : Hid (Below w.heap.size w w1.drew) := HB1
  have tok : True := trivial
  go_region_held3 (fun w' => w'.cell? ⟨w.heap.size, 0, none⟩ = some (.int .i64 c) ∧ w'.cell? ⟨w.heap.size, 1, none⟩ = some (.slice (P 0) (N 0) (C 0)) ∧ w'.cell? ⟨w.heap.size, 2, none⟩ = some (.slice (P 1) (N 1) (C 1)) ∧ w'.cell? ⟨w.heap.size, 3, none⟩ = some (.slice (P 2) (N 2) (C 2)) ∧ w'.cell? ⟨w.heap.size, 4, none⟩ = some (.slice (P 3) (N 3) (C 3)) ∧ w'.cell? ⟨w.heap.size, 5, none⟩ = some (.slice (P 4) (N 4) (C 4)) ∧ w'.cell? ⟨w.heap.size, 6, none⟩ = some (.slice (P 5) (N 5) (C 5)) ∧ w'.cell? ⟨w.heap.size, 7, none⟩ = some (.slice (P 6) (N 6) (C 6)) ∧ w'.cell? ⟨w.heap.size, 8, none⟩ = some (.slice (P 7) (N 7) (C 7)) ∧ w'.cell? ⟨w.heap.size, 9, none⟩ = some (.bool h) ∧ w'.cell? ⟨w.heap.size, 10, none⟩ = some (.int .i64 n) ∧ w'.cell? ⟨w.heap.size, 11, none⟩ = some (.int .i64 k) ∧ w'.cell? ⟨w.heap.size, 12, none⟩ = some (.bool false)) (go_keep)
    (first
      | (go_at_call_of 65 (Value.int IntKind.i64 0); refine (all_at0 c P N C h n k false _ (x 0) (x 1) (by exact (unhide HB 0 (by omega)).kept fun k' _ hk' => (unhide HW).block k' hk') (by exact (unhide HB 1 (by omega)).kept fun k' _ hk' => (unhide HW).block k' hk') (unhide HL0)).mono ?_; rintro e w2 ⟨r, rfl, hF⟩; obtain ⟨ra, rc, hr, _⟩ := hF.1.form; rw [List.length_append, ← unhide HM0] at hr; subst hr
         obtain ⟨z0, z1, z2, z3, z4, z5, z6, z7, z8, z9, z10, z11, z12⟩ := row13 (row_later (unhide HG) hF.2.2); have HG' := hide (row_later (unhide HG) hF.2.2); clear HG; have HG := HG'; clear HG'; have HW' := hide ((unhide HW).trans (hF.2.2.mono (unhide HW).size)); clear HW; have HW := HW'; clear HW' hF)
      | (go_at_call_of 65 (Value.int IntKind.i64 1); refine (all_at1 c P N C h n k false _ (x 2) (x 3) (by exact (unhide HB 2 (by omega)).kept fun k' _ hk' => (unhide HW).block k' hk') (by exact (unhide HB 3 (by omega)).kept fun k' _ hk' => (unhide HW).block k' hk') (unhide HL1)).mono ?_; rintro e w3 ⟨r, rfl, hF⟩; obtain ⟨rb, rd, hr, _⟩ := hF.1.form; rw [List.length_append, ← unhide HM1] at hr; subst hr
         obtain ⟨v0, v1, v2, v3, v4, v5, v6, v7, v8, v9, v10, v11, v12⟩ := row13 (row_later (unhide HG) hF.2.2); have HG' := hide (row_later (unhide HG) hF.2.2); clear HG; have HG := HG'; clear HG'; have HW' := hide ((unhide HW).trans (hF.2.2.mono (unhide HW).size)); clear HW; have HW := HW'; clear HW' hF))
  go_wp2
  go_ret
  exact ⟨rfl, unhide HW⟩
end
end Go.Proofs.Ytoabpjdpdcpdlaa
