/- The document's New. No statement of the seat is proved here. -/
import Derived.Test.YtbpjlkjokafdnaaTwin4
namespace Go.Proofs.Ytbpjlkjokafdnaa
open Go.RowKit

set_option maxHeartbeats 4000000 in
theorem mNew (c : Int) (w : World) : Calls Try.prog 11 #[.int .i64 c] w fun e w' => ∃ cs, e = .returned (.agg cs) ∧ RefV w' (fun b => w.heap.size ≤ b) (AD.new c) cs ∧ Below w.heap.size w w' := by
  obtain ⟨Z, hZ, hmk⟩ := make32c
  have HZ := hide hZ
  clear hZ
  go_enter Try.func11, Try.ntmps11
  go_wp2_with fail
  generalize hww : World.alloc (World.alloc w _) _ = w1
  have HG : Hid (w1.heap[w.heap.size + 1]? = some (.cells (rl c (fun _ => none) (fun _ => 0) (fun _ => 0) false 0 0 false) 33 (0, 0))) := by show w1.heap[w.heap.size + 1]? = _; rw [← hww]; exact heap_last _ _ _ (by simp)
  have hg2 : ∃ z, z.size = 13 ∧ w1.heap[w.heap.size]? = some (.cells z 33 (0, 0)) := ⟨_, rfl, by rw [← hww, Below.heap_alloc _ _ _ (by simp)]; exact heap_alloc_new w _⟩
  have HB : Hid (Below w.heap.size w w1) := by show Below w.heap.size w w1; rw [← hww]; exact ((Below.refl _ w).alloc (Nat.le_refl _) _).alloc (by simp) _
  have HS : Hid (w1.heap.size = w.heap.size + 2) := by show w1.heap.size = _; rw [← hww]; simp
  clear hww
  obtain ⟨z, hz, hg2⟩ := hg2
  have HZZ := hide hz
  have HG2 := hide hg2
  clear hz hg2
  refine wp_loop_rounds 3 ?_
  have hga : (w1.alloc (.cells Z 5)).heap[w.heap.size + 1]? = some (.cells (rl c (fun _ => none) (fun _ => 0) (fun _ => 0) false 0 0 false) 33 (0, 0)) := (Below.heap_alloc _ _ _ (by have := unhide HS; omega)).trans (unhide HG)
  have hgb : (w1.alloc (.cells Z 5)).heap[w.heap.size]? = some (.cells z 33 (0, 0)) := (Below.heap_alloc _ _ _ (by have := unhide HS; omega)).trans (unhide HG2)
  have hgz : (w1.alloc (.cells Z 5)).heap[w1.heap.size]? = some (.cells Z 5 (0, 0)) := heap_alloc_new _ _
  have y5 : (w1.alloc (.cells Z 5)).cell? ⟨w.heap.size + 1, 5, none⟩ = some (.slice none 0 0) := cell_of_row _ _ 5 _ _ _ hga
  have f5 : (w1.alloc (.cells Z 5)).frozen? ⟨w.heap.size + 1, 5, none⟩ = false := rl_frz hga 5
  have hbs : Below w.heap.size w ((w1.alloc (.cells Z 5)).setCell ⟨w.heap.size + 1, 5, none⟩ (.slice (some ⟨w1.heap.size, 0, none⟩) 32 32)) := ((unhide HB).alloc (by have := unhide HS; omega) _).setCell (p := ⟨w.heap.size + 1, 5, none⟩) (by show w.heap.size ≤ w.heap.size + 1; omega) _
  have hgs := rl_set hga 4 (by omega) (some ⟨w1.heap.size, 0, none⟩) 32 32
  have hgbs := (Below.heap_setCell (w1.alloc (.cells Z 5)) ⟨w.heap.size + 1, 5, none⟩ (.slice (some ⟨w1.heap.size, 0, none⟩) 32 32) w.heap.size (by show w.heap.size ≠ w.heap.size + 1; omega)).trans hgb
  have hgzs := (Below.heap_setCell (w1.alloc (.cells Z 5)) ⟨w.heap.size + 1, 5, none⟩ (.slice (some ⟨w1.heap.size, 0, none⟩) 32 32) w1.heap.size (by have := unhide HS; show w1.heap.size ≠ w.heap.size + 1; omega)).trans hgz
  have hss : ((w1.alloc (.cells Z 5)).setCell ⟨w.heap.size + 1, 5, none⟩ (.slice (some ⟨w1.heap.size, 0, none⟩) 32 32)).heap.size = w1.heap.size + 1 := by simp [World.setCell]
  clear HG HG2 HB
  have HG := hide hgs
  have HG2 := hide hgbs
  have HGZ := hide hgzs
  have HB := hide hbs
  have HS2 := hide hss
  clear hga hgb hgz hgs hgbs hgzs hbs hss
  rw [rounds_succ]; go_wp2_with fail
  generalize World.setCell (World.alloc w1 _) _ _ = w3 at *
  clear y5 f5
  have HS1 := HS
  clear HS
  obtain ⟨a1, ha1⟩ : ∃ a1, a1 = w1.heap.size := ⟨_, rfl⟩
  rw [← ha1] at HG HGZ HS2
  have HS : Hid (w3.heap.size = w.heap.size + 3) := by show w3.heap.size = _; have := unhide HS2; have := unhide HS1; omega
  have HA1 : Hid (a1 = w.heap.size + 2) := by show a1 = _; have := unhide HS1; omega
  clear HS1 HS2 ha1
  have hga : (w3.alloc (.cells Z 5)).heap[w.heap.size + 1]? = some (.cells (rl c (upd (fun _ => none) 4 (some ⟨a1, 0, none⟩)) (upd (fun _ => 0) 4 32) (upd (fun _ => 0) 4 32) false 0 0 false) 33 (0, 0)) := (Below.heap_alloc _ _ _ (by have := unhide HS; omega)).trans (unhide HG)
  have hgb : (w3.alloc (.cells Z 5)).heap[w.heap.size]? = some (.cells z 33 (0, 0)) := (Below.heap_alloc _ _ _ (by have := unhide HS; omega)).trans (unhide HG2)
  have hgz : (w3.alloc (.cells Z 5)).heap[w3.heap.size]? = some (.cells Z 5 (0, 0)) := heap_alloc_new _ _
  have y7 : (w3.alloc (.cells Z 5)).cell? ⟨w.heap.size + 1, 7, none⟩ = some (.slice none 0 0) := cell_of_row _ _ 7 _ _ _ hga
  have f7 : (w3.alloc (.cells Z 5)).frozen? ⟨w.heap.size + 1, 7, none⟩ = false := rl_frz hga 7
  have hbs : Below w.heap.size w ((w3.alloc (.cells Z 5)).setCell ⟨w.heap.size + 1, 7, none⟩ (.slice (some ⟨w3.heap.size, 0, none⟩) 32 32)) := ((unhide HB).alloc (by have := unhide HS; omega) _).setCell (p := ⟨w.heap.size + 1, 7, none⟩) (by show w.heap.size ≤ w.heap.size + 1; omega) _
  have hgs := rl_set hga 6 (by omega) (some ⟨w3.heap.size, 0, none⟩) 32 32
  have hgbs := (Below.heap_setCell (w3.alloc (.cells Z 5)) ⟨w.heap.size + 1, 7, none⟩ (.slice (some ⟨w3.heap.size, 0, none⟩) 32 32) w.heap.size (by show w.heap.size ≠ w.heap.size + 1; omega)).trans hgb
  have hgzs := (Below.heap_setCell (w3.alloc (.cells Z 5)) ⟨w.heap.size + 1, 7, none⟩ (.slice (some ⟨w3.heap.size, 0, none⟩) 32 32) w3.heap.size (by have := unhide HS; show w3.heap.size ≠ w.heap.size + 1; omega)).trans hgz
  have hss : ((w3.alloc (.cells Z 5)).setCell ⟨w.heap.size + 1, 7, none⟩ (.slice (some ⟨w3.heap.size, 0, none⟩) 32 32)).heap.size = w3.heap.size + 1 := by simp [World.setCell]
  have hgas := (Below.heap_setCell (w3.alloc (.cells Z 5)) ⟨w.heap.size + 1, 7, none⟩ (.slice (some ⟨w3.heap.size, 0, none⟩) 32 32) a1 (by have := unhide HA1; show a1 ≠ w.heap.size + 1; omega)).trans ((Below.heap_alloc _ _ _ (by have := unhide HS; have := unhide HA1; omega)).trans (unhide HGZ))
  clear HG HG2 HB HGZ
  have HG := hide hgs
  have HG2 := hide hgbs
  have HGZ := hide hgzs
  have HGA := hide hgas
  have HB := hide hbs
  clear hga hgb hgz hgs hgbs hgzs hgas hbs hss
  rw [rounds_succ]; go_wp2_with fail
  generalize World.setCell (World.alloc w3 _) _ _ = w5 at *
  clear y7 f7
  rw [rounds_succ]; go_wp2_with (first
    | refine wpList_load_row rfl 33 (.tmp 3) rfl (w.heap.size + 1) rfl _ _ _ _ (unhide HG) Try.underlying33 rfl (by kernel_rfl) ?_
    | refine wpList_store_row rfl 33 (.tmp 2) (.tmp 16) rfl w.heap.size _ rfl rfl _ _ (unhide HG2) (by kernel_rfl) (unhide HZZ) (rl_one ..) ?_)
  refine bodyPost_ret (results_c rfl _ _ _ _ _ _ _ rfl (setRow_heap _ _ _ _ _ _ (unhide HG2)) Try.underlying33 rfl (by kernel_rfl)) rfl ?_
  have hrow : ∀ (W : World) (b : Nat), W.heap[b]? = some (.cells Z 5 (0, 0)) → Bytes W (.slice (some ⟨b, 0, none⟩) 32 32) (List.replicate 32 0) := fun W b hb => by
    refine .inr ⟨⟨b, 0, none⟩, 32, rfl, by decide, by unfold maxLen; omega, fun j x hx => ?_⟩
    rw [Addr.add_mid, Nat.zero_add, cell_of_row _ _ _ _ _ _ hb, unhide HZ]
    simpa using hx
  have b0 : ∀ R, Bytes (w5.setRow w.heap.size R) (.slice (some ⟨a1, 0, none⟩) 32 32) (List.replicate 32 0) := fun R => hrow _ a1 ((setRow_other w5 w.heap.size a1 _ (by have := unhide HA1; omega)).trans (unhide HGA))
  have b1 : ∀ R, Bytes (w5.setRow w.heap.size R) (.slice (some ⟨w3.heap.size, 0, none⟩) 32 32) (List.replicate 32 0) := fun R => hrow _ w3.heap.size ((setRow_other w5 w.heap.size w3.heap.size _ (by have := unhide HS; omega)).trans (unhide HGZ))
  have hB0 : Bs (w5.setRow w.heap.size (rl c (upd (upd (fun _ => none) 4 (some ⟨a1, 0, none⟩)) 6 (some ⟨w3.heap.size, 0, none⟩)) (upd (upd (fun _ => 0) 4 32) 6 32) (upd (upd (fun _ => 0) 4 32) 6 32) false 0 0 false)) (fun b => w.heap.size ≤ b) (fun _ => none) (fun _ => 0) (fun _ => 0) (fun _ => []) := fun j _ => ⟨.inl ⟨rfl, rfl⟩, fun h => (h rfl).elim⟩
  exact ⟨_, rfl, ⟨c, _, _, _, false, 0, 0, false, _, rfl, (hB0.put 4 (b0 _) (fun _ b hb => by have := unhide HA1; have e : a1 = b := Option.some.inj hb; omega)).put 6 (b1 _) (fun _ b hb => by have := unhide HS; have e : w3.heap.size = b := Option.some.inj hb; omega), Agree.new c _ rfl⟩, below_setRow (unhide HB) (Nat.le_refl _) _⟩
end Go.Proofs.Ytbpjlkjokafdnaa
