/- What the functions of the document's own disk (foremanref01) do: Crash, New. No statement of the seat is proved here. -/
import Derived.Test.YtoabpjdpdcpdlaaRef11
namespace Go.Proofs.Ytoabpjdpdcpdlaa
open Go.RowKit

/-- Bytes in a block of their own, behind block g. -/
def Got (g : Nat) (W : World) (u : Value) (bs : List UInt8) : Prop := Bytes W u bs ∧ ∀ k, u.ownBlock = some k → g < k ∧ k < W.heap.size
theorem Got.below {g : Nat} {W W' : World} {u : Value} {bs : List UInt8} (h : Got g W u bs) (hb : Below W.heap.size W W') : Got g W' u bs := ⟨h.1.kept fun k hk _ => hb.block k (h.2 k hk).2, fun k hk => ⟨(h.2 k hk).1, Nat.lt_of_lt_of_le (h.2 k hk).2 hb.size⟩⟩
theorem Got.setCell {g : Nat} {W : World} {u : Value} {bs : List UInt8} (h : Got g W u bs) {p : Addr} (hp : p.block ≤ g) (v : Value) : Got g (W.setCell p v) u bs := ⟨h.1.kept fun k hk _ => Below.heap_setCell _ _ _ _ (by have := (h.2 k hk).1; omega), fun k hk => ⟨(h.2 k hk).1, by simpa [World.setCell] using (h.2 k hk).2⟩⟩
theorem Got.drew {g : Nat} {W : World} {u : Value} {bs : List UInt8} (h : Got g W u bs) : Got g W.drew u bs := h
theorem Got.setRow {g b : Nat} {W : World} {u : Value} {bs : List UInt8} (h : Got g W u bs) (hp : b ≤ g) (v : Array Value) : Bytes (W.setRow b v) u bs := h.1.kept fun k hk _ => setRow_other _ _ _ _ (by have := (h.2 k hk).1; omega)
theorem Got.of {g : Nat} {W W' : World} {u : Value} {bs : List UInt8} (h : Fresh W W' u bs) (hg : g < W.heap.size) : Got g W' u bs := ⟨h.1, fun k hk => ⟨by have := (h.2.1 k hk).1; omega, (h.2.1 k hk).2⟩⟩

theorem rl_dead {W : World} {g : Nat} {t : TypeId} {c : Int} {P : Nat → Option Addr} {N C : Nat → Nat} {bf : Bool} {n k : Int} {d : Bool} (hg : W.heap[g]? = some (.cells (rl c P N C bf n k d) t (0, 0))) (b : Bool) :
    (W.setCell ⟨g, 12, none⟩ (.bool b)).heap[g]? = some (.cells (rl c P N C bf n k b) t (0, 0)) := by
  rw [heap_setCell_same _ _ _ _ _ _ hg]; rfl
theorem rl_has {W : World} {g : Nat} {t : TypeId} {c : Int} {P : Nat → Option Addr} {N C : Nat → Nat} {bf : Bool} {n k : Int} {d : Bool} (hg : W.heap[g]? = some (.cells (rl c P N C bf n k d) t (0, 0))) (b : Bool) :
    (W.setCell ⟨g, 9, none⟩ (.bool b)).heap[g]? = some (.cells (rl c P N C b n k d) t (0, 0)) := by
  rw [heap_setCell_same _ _ _ _ _ _ hg]; rfl

theorem make32c : ∃ Z : Array Value, Z = ((List.replicate 32 (0 : UInt8)).map bv).toArray ∧ ∀ W : World, (Instr.makeSlice 25 (.int .i64 32) (.int .i64 32)).run Try.prog W = .ok (.slice (some ⟨W.heap.size, 0, none⟩) 32 32) (W.alloc (.cells Z 5)) := by
  obtain ⟨i, hi, hz0, hz1, hz2⟩ := infoByte
  refine ⟨madeCells (Value.int .u8 0).cells (Int.toNat 32 * i.size), ?_, fun W => ?_⟩
  · rw [hz1]
    apply Array.ext'
    rw [List.map_replicate]
    exact toList_madeCells_one _ _
  · exact run_make (P := Try.prog) W 25 5 i (.int .u8 0) Try.underlying25 hi hz0 .i64 .i64 32 32 (by omega) (by omega) (by rw [hz2]; omega) (by omega)

theorem wf2 (x : Int) (h : -9223372036854775808 ≤ x ∧ x ≤ 9223372036854775807) : IntKind.i64.wrap x = x := by rw [IntKind.wrap_i64]; omega

/-- Within Crash: its boxes in w's next three blocks. -/
structure CR (w : World) (c : Int) (P : Nat → Option Addr) (N C : Nat → Nat) (bf : Bool) (n k : Int) (d : Bool) (ks z : Array Value) (W : World) : Prop where
  g1 : W.heap[w.heap.size]? = some (.cells (rl c P N C bf n k d) 43 (0, 0))
  gk : W.heap[w.heap.size + 1]? = some (.cells ks 45 (0, 0))
  g2 : W.heap[w.heap.size + 2]? = some (.cells z 43 (0, 0))
  bb : Below w.heap.size w W

section
variable {w W W' : World} {c : Int} {P : Nat → Option Addr} {N C : Nat → Nat} {bf : Bool} {n k : Int} {d : Bool} {ks z : Array Value}
theorem CR.lt (h : CR w c P N C bf n k d ks z W) : w.heap.size + 2 < W.heap.size := lt_of_row h.g2
theorem CR.below (h : CR w c P N C bf n k d ks z W) (hb : Below W.heap.size W W') : CR w c P N C bf n k d ks z W' := ⟨row_later h.g1 hb, row_later h.gk hb, row_later h.g2 hb, h.bb.trans (hb.mono h.bb.size)⟩
theorem CR.drew (h : CR w c P N C bf n k d ks z W) : CR w c P N C bf n k d ks z W.drew := ⟨h.g1, h.gk, h.g2, h.bb.drew⟩
theorem CR.store2 (h : CR w c P N C bf n k d ks z W) (j : Nat) (hj : j + 1 < 8) (a : Option Addr) (m q : Nat) : CR w c (upd (upd P j a) (j + 1) none) (upd (upd N j m) (j + 1) 0) (upd (upd C j q) (j + 1) 0) bf n k d ks z ((W.setCell ⟨w.heap.size, 1 + j, none⟩ (.slice a m q)).setCell ⟨w.heap.size, 1 + (j + 1), none⟩ (.slice none 0 0)) :=
  ⟨rl_set (rl_set h.g1 j (by omega) a m q) (j + 1) (by omega) none 0 0, (Below.heap_setCell _ _ _ _ (by show w.heap.size + 1 ≠ w.heap.size; omega)).trans ((Below.heap_setCell _ _ _ _ (by show w.heap.size + 1 ≠ w.heap.size; omega)).trans h.gk),
    (Below.heap_setCell _ _ _ _ (by show w.heap.size + 2 ≠ w.heap.size; omega)).trans ((Below.heap_setCell _ _ _ _ (by show w.heap.size + 2 ≠ w.heap.size; omega)).trans h.g2), (h.bb.setCell (p := ⟨w.heap.size, 1 + j, none⟩) (Nat.le_refl _) _).setCell (p := ⟨w.heap.size, 1 + (j + 1), none⟩) (Nat.le_refl _) _⟩
theorem CR.awake (h : CR w c P N C bf n k d ks z W) : CR w c P N C false n k false ks z ((W.setCell ⟨w.heap.size, 12, none⟩ (.bool false)).setCell ⟨w.heap.size, 9, none⟩ (.bool false)) :=
  ⟨rl_has (rl_dead h.g1 false) false, (Below.heap_setCell _ _ _ _ (by show w.heap.size + 1 ≠ w.heap.size; omega)).trans ((Below.heap_setCell _ _ _ _ (by show w.heap.size + 1 ≠ w.heap.size; omega)).trans h.gk),
    (Below.heap_setCell _ _ _ _ (by show w.heap.size + 2 ≠ w.heap.size; omega)).trans ((Below.heap_setCell _ _ _ _ (by show w.heap.size + 2 ≠ w.heap.size; omega)).trans h.g2), (h.bb.setCell (p := ⟨w.heap.size, 12, none⟩) (Nat.le_refl _) _).setCell (p := ⟨w.heap.size, 9, none⟩) (Nat.le_refl _) _⟩
theorem Got.set2 {g b o1 o2 : Nat} {u v1 v2 : Value} {bs : List UInt8} (h : Got g W u bs) (hb : b ≤ g) : Got g ((W.setCell ⟨b, o1, none⟩ v1).setCell ⟨b, o2, none⟩ v2) u bs := (h.setCell (p := ⟨b, o1, none⟩) hb v1).setCell (p := ⟨b, o2, none⟩) hb v2
end

section
variable (c : Int) (P : Nat → Option Addr) (N C : Nat → Nat) (bf : Bool) (n k : Int) (d : Bool) (w : World)

set_option maxHeartbeats 8000000 in
theorem ref_crash (x : Nat → List UInt8) (hb : ∀ j, j < 8 → Bytes w (.slice (P j) (N j) (C j)) (x j)) (hl : ∀ j, j < 8 → (x j).length ≤ 1048576) (h54 : N 5 ≤ N 4) (h76 : N 7 ≤ N 6) (e0 e1 e2 e3 : Int) :
    Calls Try.prog 28 #[.agg (rl c P N C bf n k d), .agg #[.int .i64 e0, .int .i64 e1, .int .i64 e2, .int .i64 e3]] w fun e w' => ∃ a0 n0 c0 a4 n4 c4 a2 n2 c2 a6 n6 c6,
      e = .returned (.agg (rl c (upd (upd (upd (upd (upd (upd (upd (upd P 0 a0) 1 none) 4 a4) 5 none) 2 a2) 3 none) 6 a6) 7 none) (upd (upd (upd (upd (upd (upd (upd (upd N 0 n0) 1 0) 4 n4) 5 0) 2 n2) 3 0) 6 n6) 7 0) (upd (upd (upd (upd (upd (upd (upd (upd C 0 c0) 1 0) 4 c4) 5 0) 2 c2) 3 0) 6 c6) 7 0) false n k false)) ∧
      Bytes w' (.slice a0 n0 c0) (x 0 ++ (x 1).take (keepN e0 (N 1))) ∧ Bytes w' (.slice a2 n2 c2) (x 2 ++ (x 3).take (keepN e1 (N 3))) ∧ Bytes w' (.slice a4 n4 c4) ((x 5).take (keepN e2 (N 5)) ++ (x 4).drop (keepN e2 (N 5))) ∧ Bytes w' (.slice a6 n6 c6) ((x 7).take (keepN e3 (N 7)) ++ (x 6).drop (keepN e3 (N 7))) ∧
      (∀ k, (Value.slice a0 n0 c0).ownBlock = some k → w.heap.size ≤ k) ∧ (∀ k, (Value.slice a2 n2 c2).ownBlock = some k → w.heap.size ≤ k) ∧ (∀ k, (Value.slice a4 n4 c4).ownBlock = some k → w.heap.size ≤ k) ∧ (∀ k, (Value.slice a6 n6 c6).ownBlock = some k → w.heap.size ≤ k) ∧ Below w.heap.size w w' := by
  have HL := hide hl
  have HNL : Hid (∀ j, j < 8 → (x j).length = N j ∧ N j ≤ C j) := fun j hj => bytes_len (hb j hj)
  have HK4 : Hid (∀ e : Int, keepN e (N 5) ≤ N 5 ∧ keepN e (N 5) ≤ N 4) := fun e => by have := keepN_le e (N 5); omega
  have HK6 : Hid (∀ e : Int, keepN e (N 7) ≤ N 7 ∧ keepN e (N 7) ≤ N 6) := fun e => by have := keepN_le e (N 7); omega
  have HB := hide hb
  clear hb hl h54 h76
  go_enter Try.func28, Try.ntmps28
  unfold rl
  go_wp2_with fail
  generalize hww : World.alloc (World.alloc (World.alloc w _) _) _ = w1
  have HR : Hid (∃ z, z.size = 13 ∧ CR w c P N C bf n k d #[.int .i64 e0, .int .i64 e1, .int .i64 e2, .int .i64 e3] z w1) := by
    have hg2 : ∃ z, z.size = 13 ∧ w1.heap[w.heap.size + 2]? = some (.cells z 43 (0, 0)) := ⟨_, rfl, by rw [← hww]; exact heap_last _ _ _ (by simp)⟩
    obtain ⟨z, hz, hg2⟩ := hg2
    refine ⟨z, hz, ⟨?_, ?_, hg2, ?_⟩⟩
    · rw [← hww, Below.heap_alloc _ _ _ (by simp; omega), Below.heap_alloc _ _ _ (by simp)]; exact heap_alloc_new w _
    · rw [← hww, Below.heap_alloc _ _ _ (by simp)]; exact heap_last _ _ _ (by simp)
    · rw [← hww]; exact (((Below.refl _ w).alloc (Nat.le_refl _) _).alloc (by simp) _).alloc (by simp; omega) _
  clear hww
  obtain ⟨z, hz, hR⟩ := unhide HR
  clear HR
  have HZ := hide hz
  have HR := hide hR
  clear hz hR
  refine wp_loop_rounds 3 ?_
  have s1 : w1.cell? ⟨w.heap.size, 1, none⟩ = some (.slice (P 0) (N 0) (C 0)) := cell_of_row _ _ 1 _ _ _ (unhide HR).g1
  have s2 : w1.cell? ⟨w.heap.size, 2, none⟩ = some (.slice (P 1) (N 1) (C 1)) := cell_of_row _ _ 2 _ _ _ (unhide HR).g1
  have k1 : w1.cell? ⟨w.heap.size + 1, 0, none⟩ = some (.int .i64 e0) := cell_of_row _ _ 0 _ _ _ (unhide HR).gk
  have f1 : w1.frozen? ⟨w.heap.size, 1, none⟩ = false := rl_frz (unhide HR).g1 1
  have f2 : w1.frozen? ⟨w.heap.size, 2, none⟩ = false := rl_frz (unhide HR).g1 2
  have HGL : Hid (w.heap.size < w1.heap.size) := lt_of_row (unhide HR).g1
  have HXA : Hid (Bytes w1 (.slice (P 0) (N 0) (C 0)) (x 0)) := (unhide HB 0 (by omega)).kept fun k' _ hk' => (unhide HR).bb.block k' hk'
  have HXB : Hid (Bytes w1 (.slice (P 1) (keepN e0 (N 1)) (C 1)) ((x 1).take (keepN e0 (N 1)))) := ((unhide HB 1 (by omega)).kept fun k' _ hk' => (unhide HR).bb.block k' hk').take (keepN_le _ _) (unhide HNL 1 (by omega)).1
  have HXL : Hid ((x 0).length + ((x 1).take (keepN e0 (N 1))).length ≤ 140737488355328) := by show _ ≤ _; rw [List.length_take]; have := unhide HL 0 (by omega); have := unhide HL 1 (by omega); omega
  have hcc : N 1 ≤ C 1 := (unhide HNL 1 (by omega)).2
  rw [rounds_succ]
  go_upto_region 4 with fail
  go_cut [] (fun wx => ∃ a0 n0 c0, CR w c (upd (upd P 0 a0) 1 none) (upd (upd N 0 n0) 1 0) (upd (upd C 0 c0) 1 0) bf n k d #[.int .i64 e0, .int .i64 e1, .int .i64 e2, .int .i64 e3] z wx ∧ Got (w.heap.size + 2) wx (.slice a0 n0 c0) (x 0 ++ (x 1).take (keepN e0 (N 1))))
  case first =>
    go_region_with (first
      | (go_at_call 47; refine (some_any _ _ _ _ _ (by exact hcc)).mono ?_; rintro e w' ⟨rfl, rfl⟩)
      | (go_at_call 46; refine (join_any _ _ (x 0) ((x 1).take (keepN e0 (N 1))) _ (by exact (unhide HXA).kept (fun _ _ _ => rfl)) (by exact (unhide HXB).kept (fun _ _ _ => rfl)) (unhide HXL)).mono ?_; rintro e w2 ⟨r, rfl, hF⟩; obtain ⟨a0, c0, hr, _⟩ := hF.1.form; obtain ⟨n0, hnn⟩ : ∃ n0, n0 = (x 0 ++ (x 1).take (keepN e0 (N 1))).length := ⟨_, rfl⟩; rw [← hnn] at hr; subst hr; have yl := (hF.2.2.cell (p := ⟨w.heap.size, 1, none⟩) (unhide HGL)).trans s1; have yl2 := (hF.2.2.cell (p := ⟨w.heap.size, 2, none⟩) (unhide HGL)).trans s2; have fz1 := (World.frozen?_of_block (a := ⟨w.heap.size, 1, none⟩) (hF.2.2.block w.heap.size (unhide HGL))).trans f1; have fz2 := (World.frozen?_of_block (a := ⟨w.heap.size, 2, none⟩) (hF.2.2.block w.heap.size (unhide HGL))).trans f2; have HF := hide hF; clear hF hnn))
    all_goals (
      go_wp2_with fail
      go_meet
      exact ⟨a0, n0, c0, ((unhide HR).drew.below (unhide HF).2.2).store2 0 (by omega) a0 n0 c0, (Got.of (unhide HF) (unhide HR).lt).set2 (by omega)⟩)
  obtain ⟨a0, n0, c0, hR, hG0⟩ := hcut
  clear s1 s2 k1 f1 f2 HGL HXA HXB HXL hcc HR
  have HR := hide hR
  have HG0 := hide hG0
  clear hR hG0
  generalize wc = w3 at *
  have s1 : w3.cell? ⟨w.heap.size, 5, none⟩ = some (.slice (P 4) (N 4) (C 4)) := cell_of_row _ _ 5 _ _ _ (unhide HR).g1
  have s2 : w3.cell? ⟨w.heap.size, 6, none⟩ = some (.slice (P 5) (N 5) (C 5)) := cell_of_row _ _ 6 _ _ _ (unhide HR).g1
  have k1 : w3.cell? ⟨w.heap.size + 1, 2, none⟩ = some (.int .i64 e2) := cell_of_row _ _ 2 _ _ _ (unhide HR).gk
  have f1 : w3.frozen? ⟨w.heap.size, 5, none⟩ = false := rl_frz (unhide HR).g1 5
  have f2 : w3.frozen? ⟨w.heap.size, 6, none⟩ = false := rl_frz (unhide HR).g1 6
  have HGL : Hid (w.heap.size < w3.heap.size) := lt_of_row (unhide HR).g1
  have HXA : Hid (Bytes w3 (.slice (P 5) (keepN e2 (N 5)) (C 5)) ((x 5).take (keepN e2 (N 5)))) := ((unhide HB 5 (by omega)).kept fun k' _ hk' => (unhide HR).bb.block k' hk').take (keepN_le _ _) (unhide HNL 5 (by omega)).1
  obtain ⟨sa, sc, hB2, q3, q4⟩ := slice_off (m := (keepN e2 (N 5))) (lf := N 4 - (keepN e2 (N 5))) ((unhide HB 4 (by omega)).kept fun k' _ hk' => (unhide HR).bb.block k' hk') (unhide HNL 4 (by omega)).1 (by have := unhide HK4 e2; omega)
  have HXB := hide hB2
  have HXL : Hid (((x 5).take (keepN e2 (N 5))).length + ((x 4).drop (keepN e2 (N 5))).length ≤ 140737488355328) := by show _ ≤ _; rw [List.length_take, List.length_drop]; have := unhide HL 4 (by omega); have := unhide HL 5 (by omega); omega
  have hcc : N 5 ≤ C 5 := (unhide HNL 5 (by omega)).2
  clear hB2
  have hw2 : IntKind.i64.wrap (2 : Int) = 2 := wf2 2 (by omega)
  have hw3 : IntKind.i64.wrap (3 : Int) = 3 := wf2 3 (by omega)
  have hw20 : IntKind.i64.wrap ((2 : Int) + 0) = 2 := wf2 2 (by omega)
  have hw21 : IntKind.i64.wrap ((2 : Int) + 1) = 3 := wf2 3 (by omega)
  go_upto_region 5 with fail
  go_region_held3 (fun w' => w'.cell? ⟨w.heap.size, 6, none⟩ = some (.slice (P 5) (N 5) (C 5)) ∧ w'.cell? ⟨w.heap.size + 1, 2, none⟩ = some (.int .i64 e2)) (go_keep)
    (first | (go_at_call 47; refine (some_any _ _ _ _ _ (by exact hcc)).mono ?_; rintro e w' ⟨rfl, rfl⟩))
  go_wp2_with fail
  refine (join_any _ _ ((x 5).take (keepN e2 (N 5))) ((x 4).drop (keepN e2 (N 5))) _ (by exact (unhide HXA).kept (fun _ _ _ => rfl)) (by exact (unhide HXB).kept (fun _ _ _ => rfl)) (unhide HXL)).mono ?_
  rintro e w4 ⟨r, rfl, hF⟩
  obtain ⟨a4, c4, hr, _⟩ := hF.1.form
  obtain ⟨n4, hnn⟩ : ∃ n4, n4 = ((x 5).take (keepN e2 (N 5)) ++ (x 4).drop (keepN e2 (N 5))).length := ⟨_, rfl⟩
  rw [← hnn] at hr
  subst hr
  have yl := (hF.2.2.cell (p := ⟨w.heap.size, 5, none⟩) (unhide HGL)).trans s1
  have yl2 := (hF.2.2.cell (p := ⟨w.heap.size, 6, none⟩) (unhide HGL)).trans s2
  have fz1 := (World.frozen?_of_block (a := ⟨w.heap.size, 5, none⟩) (hF.2.2.block w.heap.size (unhide HGL))).trans f1
  have fz2 := (World.frozen?_of_block (a := ⟨w.heap.size, 6, none⟩) (hF.2.2.block w.heap.size (unhide HGL))).trans f2
  have HR' : Hid (CR w c (upd (upd P 0 a0) 1 none) (upd (upd N 0 n0) 1 0) (upd (upd C 0 c0) 1 0) bf n k d #[.int .i64 e0, .int .i64 e1, .int .i64 e2, .int .i64 e3] z w4) := (unhide HR).drew.below hF.2.2
  have HG4 : Hid (Got (w.heap.size + 2) w4 (.slice a4 n4 c4) ((x 5).take (keepN e2 (N 5)) ++ (x 4).drop (keepN e2 (N 5)))) := Got.of hF (unhide HR).lt
  have HG0' : Hid (Got (w.heap.size + 2) w4 (.slice a0 n0 c0) (x 0 ++ (x 1).take (keepN e0 (N 1)))) := (unhide HG0).drew.below hF.2.2
  clear hw2 hw3 hw20 hw21 hF hnn s1 s2 k1 f1 f2 HGL HXA HXB HXL hcc HR q3 q4 HG0
  go_wp2_with fail
  have hR := (unhide HR').store2 4 (by omega) a4 n4 c4
  have hG4 := (unhide HG4).set2 (b := w.heap.size) (o1 := 5) (o2 := 6) (v1 := .slice a4 n4 c4) (v2 := .slice none 0 0) (by omega)
  have hG0 := (unhide HG0').set2 (b := w.heap.size) (o1 := 5) (o2 := 6) (v1 := .slice a4 n4 c4) (v2 := .slice none 0 0) (by omega)
  generalize World.setCell (World.setCell w4 _ _) _ _ = w5 at *
  clear yl yl2 fz1 fz2 HR' HG4 HG0'
  have HR := hide hR
  clear hR
  have HG0 := hide hG0
  clear hG0
  have HG4 := hide hG4
  clear hG4
  have s1 : w5.cell? ⟨w.heap.size, 3, none⟩ = some (.slice (P 2) (N 2) (C 2)) := cell_of_row _ _ 3 _ _ _ (unhide HR).g1
  have s2 : w5.cell? ⟨w.heap.size, 4, none⟩ = some (.slice (P 3) (N 3) (C 3)) := cell_of_row _ _ 4 _ _ _ (unhide HR).g1
  have k1 : w5.cell? ⟨w.heap.size + 1, 1, none⟩ = some (.int .i64 e1) := cell_of_row _ _ 1 _ _ _ (unhide HR).gk
  have f1 : w5.frozen? ⟨w.heap.size, 3, none⟩ = false := rl_frz (unhide HR).g1 3
  have f2 : w5.frozen? ⟨w.heap.size, 4, none⟩ = false := rl_frz (unhide HR).g1 4
  have HGL : Hid (w.heap.size < w5.heap.size) := lt_of_row (unhide HR).g1
  have HXA : Hid (Bytes w5 (.slice (P 2) (N 2) (C 2)) (x 2)) := (unhide HB 2 (by omega)).kept fun k' _ hk' => (unhide HR).bb.block k' hk'
  have HXB : Hid (Bytes w5 (.slice (P 3) (keepN e1 (N 3)) (C 3)) ((x 3).take (keepN e1 (N 3)))) := ((unhide HB 3 (by omega)).kept fun k' _ hk' => (unhide HR).bb.block k' hk').take (keepN_le _ _) (unhide HNL 3 (by omega)).1
  have HXL : Hid ((x 2).length + ((x 3).take (keepN e1 (N 3))).length ≤ 140737488355328) := by show _ ≤ _; rw [List.length_take]; have := unhide HL 2 (by omega); have := unhide HL 3 (by omega); omega
  have hcc : N 3 ≤ C 3 := (unhide HNL 3 (by omega)).2
  rw [rounds_succ]
  go_upto_region 4 with fail
  go_cut [] (fun wx => ∃ a2 n2 c2, CR w c (upd (upd (upd (upd (upd (upd P 0 a0) 1 none) 4 a4) 5 none) 2 a2) 3 none) (upd (upd (upd (upd (upd (upd N 0 n0) 1 0) 4 n4) 5 0) 2 n2) 3 0) (upd (upd (upd (upd (upd (upd C 0 c0) 1 0) 4 c4) 5 0) 2 c2) 3 0) bf n k d #[.int .i64 e0, .int .i64 e1, .int .i64 e2, .int .i64 e3] z wx ∧ Got (w.heap.size + 2) wx (.slice a2 n2 c2) (x 2 ++ (x 3).take (keepN e1 (N 3))) ∧ Got (w.heap.size + 2) wx (.slice a0 n0 c0) (x 0 ++ (x 1).take (keepN e0 (N 1))) ∧ Got (w.heap.size + 2) wx (.slice a4 n4 c4) ((x 5).take (keepN e2 (N 5)) ++ (x 4).drop (keepN e2 (N 5))))
  case first =>
    go_region_with (first
      | (go_at_call 47; refine (some_any _ _ _ _ _ (by exact hcc)).mono ?_; rintro e w' ⟨rfl, rfl⟩)
      | (go_at_call 46; refine (join_any _ _ (x 2) ((x 3).take (keepN e1 (N 3))) _ (by exact (unhide HXA).kept (fun _ _ _ => rfl)) (by exact (unhide HXB).kept (fun _ _ _ => rfl)) (unhide HXL)).mono ?_; rintro e w6 ⟨r, rfl, hF⟩; obtain ⟨a2, c2, hr, _⟩ := hF.1.form; obtain ⟨n2, hnn⟩ : ∃ n2, n2 = (x 2 ++ (x 3).take (keepN e1 (N 3))).length := ⟨_, rfl⟩; rw [← hnn] at hr; subst hr; have yl := (hF.2.2.cell (p := ⟨w.heap.size, 3, none⟩) (unhide HGL)).trans s1; have yl2 := (hF.2.2.cell (p := ⟨w.heap.size, 4, none⟩) (unhide HGL)).trans s2; have fz1 := (World.frozen?_of_block (a := ⟨w.heap.size, 3, none⟩) (hF.2.2.block w.heap.size (unhide HGL))).trans f1; have fz2 := (World.frozen?_of_block (a := ⟨w.heap.size, 4, none⟩) (hF.2.2.block w.heap.size (unhide HGL))).trans f2; have HF := hide hF; clear hF hnn))
    all_goals (
      go_wp2_with fail
      go_meet
      exact ⟨a2, n2, c2, ((unhide HR).drew.below (unhide HF).2.2).store2 2 (by omega) a2 n2 c2, (Got.of (unhide HF) (unhide HR).lt).set2 (by omega), ((unhide HG0).drew.below (unhide HF).2.2).set2 (by omega), ((unhide HG4).drew.below (unhide HF).2.2).set2 (by omega)⟩)
  obtain ⟨a2, n2, c2, hR, hG2, hH0, hH4⟩ := hcut
  clear s1 s2 k1 f1 f2 HGL HXA HXB HXL hcc HR HG0 HG4
  have HR := hide hR
  have HG2 := hide hG2
  clear hR hG2
  have HG0 := hide hH0
  clear hH0
  have HG4 := hide hH4
  clear hH4
  generalize wc = w7 at *
  have s1 : w7.cell? ⟨w.heap.size, 7, none⟩ = some (.slice (P 6) (N 6) (C 6)) := cell_of_row _ _ 7 _ _ _ (unhide HR).g1
  have s2 : w7.cell? ⟨w.heap.size, 8, none⟩ = some (.slice (P 7) (N 7) (C 7)) := cell_of_row _ _ 8 _ _ _ (unhide HR).g1
  have k1 : w7.cell? ⟨w.heap.size + 1, 3, none⟩ = some (.int .i64 e3) := cell_of_row _ _ 3 _ _ _ (unhide HR).gk
  have f1 : w7.frozen? ⟨w.heap.size, 7, none⟩ = false := rl_frz (unhide HR).g1 7
  have f2 : w7.frozen? ⟨w.heap.size, 8, none⟩ = false := rl_frz (unhide HR).g1 8
  have HGL : Hid (w.heap.size < w7.heap.size) := lt_of_row (unhide HR).g1
  have HXA : Hid (Bytes w7 (.slice (P 7) (keepN e3 (N 7)) (C 7)) ((x 7).take (keepN e3 (N 7)))) := ((unhide HB 7 (by omega)).kept fun k' _ hk' => (unhide HR).bb.block k' hk').take (keepN_le _ _) (unhide HNL 7 (by omega)).1
  obtain ⟨sa, sc, hB2, q3, q4⟩ := slice_off (m := (keepN e3 (N 7))) (lf := N 6 - (keepN e3 (N 7))) ((unhide HB 6 (by omega)).kept fun k' _ hk' => (unhide HR).bb.block k' hk') (unhide HNL 6 (by omega)).1 (by have := unhide HK6 e3; omega)
  have HXB := hide hB2
  have HXL : Hid (((x 7).take (keepN e3 (N 7))).length + ((x 6).drop (keepN e3 (N 7))).length ≤ 140737488355328) := by show _ ≤ _; rw [List.length_take, List.length_drop]; have := unhide HL 6 (by omega); have := unhide HL 7 (by omega); omega
  have hcc : N 7 ≤ C 7 := (unhide HNL 7 (by omega)).2
  clear hB2
  have hw2 : IntKind.i64.wrap (2 : Int) = 2 := wf2 2 (by omega)
  have hw3 : IntKind.i64.wrap (3 : Int) = 3 := wf2 3 (by omega)
  have hw20 : IntKind.i64.wrap ((2 : Int) + 0) = 2 := wf2 2 (by omega)
  have hw21 : IntKind.i64.wrap ((2 : Int) + 1) = 3 := wf2 3 (by omega)
  go_upto_region 5 with fail
  go_region_held3 (fun w' => w'.cell? ⟨w.heap.size, 8, none⟩ = some (.slice (P 7) (N 7) (C 7)) ∧ w'.cell? ⟨w.heap.size + 1, 3, none⟩ = some (.int .i64 e3)) (go_keep)
    (first | (go_at_call 47; refine (some_any _ _ _ _ _ (by exact hcc)).mono ?_; rintro e w' ⟨rfl, rfl⟩))
  go_wp2_with fail
  refine (join_any _ _ ((x 7).take (keepN e3 (N 7))) ((x 6).drop (keepN e3 (N 7))) _ (by exact (unhide HXA).kept (fun _ _ _ => rfl)) (by exact (unhide HXB).kept (fun _ _ _ => rfl)) (unhide HXL)).mono ?_
  rintro e w8 ⟨r, rfl, hF⟩
  obtain ⟨a6, c6, hr, _⟩ := hF.1.form
  obtain ⟨n6, hnn⟩ : ∃ n6, n6 = ((x 7).take (keepN e3 (N 7)) ++ (x 6).drop (keepN e3 (N 7))).length := ⟨_, rfl⟩
  rw [← hnn] at hr
  subst hr
  have yl := (hF.2.2.cell (p := ⟨w.heap.size, 7, none⟩) (unhide HGL)).trans s1
  have yl2 := (hF.2.2.cell (p := ⟨w.heap.size, 8, none⟩) (unhide HGL)).trans s2
  have fz1 := (World.frozen?_of_block (a := ⟨w.heap.size, 7, none⟩) (hF.2.2.block w.heap.size (unhide HGL))).trans f1
  have fz2 := (World.frozen?_of_block (a := ⟨w.heap.size, 8, none⟩) (hF.2.2.block w.heap.size (unhide HGL))).trans f2
  have HR' : Hid (CR w c (upd (upd (upd (upd (upd (upd P 0 a0) 1 none) 4 a4) 5 none) 2 a2) 3 none) (upd (upd (upd (upd (upd (upd N 0 n0) 1 0) 4 n4) 5 0) 2 n2) 3 0) (upd (upd (upd (upd (upd (upd C 0 c0) 1 0) 4 c4) 5 0) 2 c2) 3 0) bf n k d #[.int .i64 e0, .int .i64 e1, .int .i64 e2, .int .i64 e3] z w8) := (unhide HR).drew.below hF.2.2
  have HG6 : Hid (Got (w.heap.size + 2) w8 (.slice a6 n6 c6) ((x 7).take (keepN e3 (N 7)) ++ (x 6).drop (keepN e3 (N 7)))) := Got.of hF (unhide HR).lt
  have HG0' : Hid (Got (w.heap.size + 2) w8 (.slice a0 n0 c0) (x 0 ++ (x 1).take (keepN e0 (N 1)))) := (unhide HG0).drew.below hF.2.2
  have HG4' : Hid (Got (w.heap.size + 2) w8 (.slice a4 n4 c4) ((x 5).take (keepN e2 (N 5)) ++ (x 4).drop (keepN e2 (N 5)))) := (unhide HG4).drew.below hF.2.2
  have HG2' : Hid (Got (w.heap.size + 2) w8 (.slice a2 n2 c2) (x 2 ++ (x 3).take (keepN e1 (N 3)))) := (unhide HG2).drew.below hF.2.2
  clear hw2 hw3 hw20 hw21 hF hnn s1 s2 k1 f1 f2 HGL HXA HXB HXL hcc HR q3 q4 HG0 HG4 HG2
  go_wp2_with fail
  have hR := (unhide HR').store2 6 (by omega) a6 n6 c6
  have hG6 := (unhide HG6).set2 (b := w.heap.size) (o1 := 7) (o2 := 8) (v1 := .slice a6 n6 c6) (v2 := .slice none 0 0) (by omega)
  have hG0 := (unhide HG0').set2 (b := w.heap.size) (o1 := 7) (o2 := 8) (v1 := .slice a6 n6 c6) (v2 := .slice none 0 0) (by omega)
  have hG4 := (unhide HG4').set2 (b := w.heap.size) (o1 := 7) (o2 := 8) (v1 := .slice a6 n6 c6) (v2 := .slice none 0 0) (by omega)
  have hG2 := (unhide HG2').set2 (b := w.heap.size) (o1 := 7) (o2 := 8) (v1 := .slice a6 n6 c6) (v2 := .slice none 0 0) (by omega)
  generalize World.setCell (World.setCell w8 _ _) _ _ = w9 at *
  clear yl yl2 fz1 fz2 HR' HG6 HG0' HG4' HG2'
  have HR := hide hR
  clear hR
  have HG0 := hide hG0
  clear hG0
  have HG4 := hide hG4
  clear hG4
  have HG2 := hide hG2
  clear hG2
  have HG6 := hide hG6
  clear hG6
  rw [rounds_succ]
  have s1 : w9.cell? ⟨w.heap.size, 12, none⟩ = some (.bool d) := cell_of_row _ _ 12 _ _ _ (unhide HR).g1
  have s2 : w9.cell? ⟨w.heap.size, 9, none⟩ = some (.bool bf) := cell_of_row _ _ 9 _ _ _ (unhide HR).g1
  have f1 : w9.frozen? ⟨w.heap.size, 12, none⟩ = false := rl_frz (unhide HR).g1 12
  have f2 : w9.frozen? ⟨w.heap.size, 9, none⟩ = false := rl_frz (unhide HR).g1 9
  go_upto_region 8 with fail
  have hR := (unhide HR).awake
  have hG0 := (unhide HG0).set2 (b := w.heap.size) (o1 := 12) (o2 := 9) (v1 := .bool false) (v2 := .bool false) (by omega)
  have hG4 := (unhide HG4).set2 (b := w.heap.size) (o1 := 12) (o2 := 9) (v1 := .bool false) (v2 := .bool false) (by omega)
  have hG2 := (unhide HG2).set2 (b := w.heap.size) (o1 := 12) (o2 := 9) (v1 := .bool false) (v2 := .bool false) (by omega)
  have hG6 := (unhide HG6).set2 (b := w.heap.size) (o1 := 12) (o2 := 9) (v1 := .bool false) (v2 := .bool false) (by omega)
  generalize World.setCell (World.setCell w9 _ _) _ _ = wz at *
  clear s1 s2 f1 f2 HR HG0 HG2 HG4 HG6
  have HR := hide hR
  clear hR
  have HG0 := hide hG0
  clear hG0
  have HG4 := hide hG4
  clear hG4
  have HG2 := hide hG2
  clear hG2
  have HG6 := hide hG6
  clear hG6
  go_wp2_with (first
    | refine wpList_load_row rfl 43 (.tmp 2) rfl w.heap.size rfl _ _ _ _ (unhide HR).g1 Try.underlying43 rfl (by kernel_rfl) ?_
    | refine wpList_store_row rfl 43 (.tmp 4) (.tmp 56) rfl (w.heap.size + 2) _ rfl rfl _ _ (unhide HR).g2 (by kernel_rfl) (unhide HZ) (rl_one ..) ?_)
  refine bodyPost_ret (results_c rfl _ _ _ _ _ _ _ rfl (setRow_heap _ _ _ _ _ _ (unhide HR).g2) Try.underlying43 rfl (by kernel_rfl)) rfl ?_
  exact ⟨a0, n0, c0, a4, n4, c4, a2, n2, c2, a6, n6, c6, rfl, (unhide HG0).setRow (Nat.le_refl _) _, (unhide HG2).setRow (Nat.le_refl _) _, (unhide HG4).setRow (Nat.le_refl _) _, (unhide HG6).setRow (Nat.le_refl _) _, fun k hk => by have := ((unhide HG0).2 k hk).1; omega, fun k hk => by have := ((unhide HG2).2 k hk).1; omega, fun k hk => by have := ((unhide HG4).2 k hk).1; omega, fun k hk => by have := ((unhide HG6).2 k hk).1; omega, below_setRow (unhide HR).bb (by omega) _⟩
end
end Go.Proofs.Ytoabpjdpdcpdlaa
