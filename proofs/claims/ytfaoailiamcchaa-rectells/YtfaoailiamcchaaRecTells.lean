/- RecTells, walked over RecOk. -/
import Derived.Test.YtfaoailiamcchaaRecAwake
namespace Go.Proofs.Ytfaoailiamcchaa
open Go.RowKit

theorem kept_new {W w' : World} {o : Obj} (h : Below (W.alloc o).heap.size (W.alloc o) w') : w'.heap[W.heap.size]? = some o := (h.block _ (by simp)).trans (heap_alloc_new W o)
theorem kept_old {W w' : World} {k : Nat} {o : Obj} (h : Below W.heap.size W w') (hk : W.heap[k]? = some o) : w'.heap[k]? = some o := (h.block _ (Array.getElem?_eq_some_iff.1 hk).1).trans hk

/-- Bytes stay where another block is written. -/
theorem Bytes.apart {w w' : World} {u : Value} {bs : List UInt8} {B : Nat} (h : Bytes w u bs) (hne : bs ≠ [] → ∀ k, u.ownBlock = some k → k ≠ B) (hk : ∀ k, k ≠ B → w'.heap[k]? = w.heap[k]?) : Bytes w' u bs := by
  rcases h with h | ⟨q, c, rfl, h1, h2, h3⟩
  · exact .inl h
  · refine .inr ⟨q, c, rfl, h1, h2, fun j x hx => ?_⟩
    have hb : bs ≠ [] := fun e => by rw [e] at hx; cases hx
    rw [World.cell?_of_block (w := w) (w' := w') (a := q.add j) (by rw [add_block]; exact hk _ (hne hb _ rfl))]
    exact h3 j x hx

/-- A record is stored into a block of its own. -/
theorem Kp.store2 {w W : World} {L : List (Value × List UInt8)} {M : List (Nat × Array Value)} {B : Nat} {z0 z1 : Value} (h : Kp w W L M) (hB : W.heap[B]? = some (.cells #[z0, z1] 24 (0, 0))) (hw : w.heap.size ≤ B)
    (hL : ∀ p ∈ L, p.2 ≠ [] → ∀ k, p.1.ownBlock = some k → k ≠ B) (hM : ∀ p ∈ M, p.1 ≠ B) (x y : Value) : Kp w ((W.setCell ⟨B, 0, none⟩ x).setCell ⟨B, 1, none⟩ y) L ((B, #[x, y]) :: M) := by
  have hk : ∀ k, k ≠ B → ((W.setCell ⟨B, 0, none⟩ x).setCell ⟨B, 1, none⟩ y).heap[k]? = W.heap[k]? := fun k hk => by
    rw [Below.heap_setCell _ _ _ _ (by exact hk), Below.heap_setCell _ _ _ _ (by exact hk)]
  have hs := heap_setCell_same _ _ 1 _ _ y (heap_setCell_same _ _ 0 _ _ x hB)
  refine ⟨(h.bb.setCell (p := ⟨B, 0, none⟩) hw x).setCell (p := ⟨B, 1, none⟩) hw y, fun p hp => (h.byt p hp).apart (hL p hp) hk, fun p hp => ?_⟩
  rcases List.mem_cons.1 hp with e | e
  · rw [e, hs]; rfl
  · rw [hk _ (hM p e)]; exact h.ce p e

theorem Fresh.apart {W W' : World} {v : Value} {bs : List UInt8} (h : FreshO W W' v bs) {B : Nat} (hB : B < W.heap.size) : ∀ k, v.ownBlock = some k → k ≠ B := fun k hk => by have := (h.1.2.1 k hk).1; omega
theorem Fresh.apart' {W W' : World} {v : Value} {bs : List UInt8} (h : FreshO W W' v bs) {B : Nat} (hB : W'.heap.size ≤ B) : ∀ k, v.ownBlock = some k → k ≠ B := fun k hk => by have := (h.1.2.1 k hk).2; omega

theorem mem4 {P : Value × List UInt8 → Prop} {a b c d : Value × List UInt8} (ha : P a) (hb : P b) (hc : P c) (hd : P d) : ∀ p ∈ [a, b, c, d], P p := by
  intro p hp
  simp only [List.mem_cons, List.not_mem_nil, or_false] at hp
  rcases hp with rfl | rfl | rfl | rfl
  · exact ha
  · exact hb
  · exact hc
  · exact hd
theorem mem1 {P : Nat × Array Value → Prop} {a : Nat × Array Value} (ha : P a) : ∀ p ∈ [a], P p := by
  intro p hp
  simp only [List.mem_cons, List.not_mem_nil, or_false] at hp
  subst hp
  exact ha

section
variable (hc : RecOk) (r : RecD) (a1 a2 : Option Addr) (n1 c1 n2 c2 : Nat) (z : Int) (w : World)
include hc

set_option maxRecDepth 100000 in
set_option maxHeartbeats 8000000 in
theorem recTells_long (hl : 9000 < n1 ∨ 9000 < n2) : Calls Try.prog 3 #[.agg #[.int .u8 (r.k.toNat : Nat), .slice a1 n1 c1], .slice a2 n2 c2, .int .i64 z] w fun e w' => e = .returned (.bool true) ∧ Below w.heap.size w w' := by
  have HC := hide hc
  clear hc
  by_cases h9 : 9000 < n1
  · have g1 : (n1 : Int) > 9000 := by omega
    clear hl
    go_enter Try.func3, Try.ntmps3
    go_wp2_with fail
    refine (awake_any (unhide HC) _).mono ?_
    rintro e w2 ⟨rfl, hb⟩
    have HB : Hid (Below w.heap.size w w2) := ((Below.refl _ w).alloc (Nat.le_refl _) _).trans (hb.mono (by simp))
    clear hb
    go_wp2_with fail
    go_ret
    exact ⟨rfl, unhide HB⟩
  · have g1 : ¬ (n1 : Int) > 9000 := by omega
    have g2 : (n2 : Int) > 9000 := by omega
    clear hl
    go_enter Try.func3, Try.ntmps3
    go_wp2_with fail
    refine (awake_any (unhide HC) _).mono ?_
    rintro e w2 ⟨rfl, hb⟩
    have HB : Hid (Below w.heap.size w w2) := ((Below.refl _ w).alloc (Nat.le_refl _) _).trans (hb.mono (by simp))
    clear hb
    go_wp2_with fail
    go_ret
    exact ⟨rfl, unhide HB⟩

set_option maxRecDepth 100000 in
set_option maxHeartbeats 16000000 in
theorem recTells_main (b : List UInt8) (h1 : Bytes w (.slice a1 n1 c1) r.d) (h2 : Bytes w (.slice a2 n2 c2) b) (hl1 : n1 ≤ 9000) (hl2 : n2 ≤ 9000) : Calls Try.prog 3 #[.agg #[.int .u8 (r.k.toNat : Nat), .slice a1 n1 c1], .slice a2 n2 c2, .int .i64 z] w fun e w' => e = .returned (.bool true) ∧ Below w.heap.size w w' := by
  have HC := hide hc
  have HN1 : Hid (r.d.length ≤ 1048576) := by show _ ≤ _; have := (bytes_len h1).1; omega
  have HN2 : Hid (b.length ≤ 1048576) := by show _ ≤ _; have := (bytes_len h2).1; omega
  have g1 : ¬ (n1 : Int) > 9000 := by omega
  have g2 : ¬ (n2 : Int) > 9000 := by omega
  have HK1 := hide ((((Kp.start w).addB h1).addB h2).newC #[.int .u8 (r.k.toNat : Nat), .slice a1 n1 c1])
  have HG3 : Hid (w.heap.size < (w.alloc (.cells #[.int .u8 (r.k.toNat : Nat), .slice a1 n1 c1] 24)).heap.size) := by show _ < _; simp
  have HT1 : Hid (r.d ≠ [] → ∀ k, (Value.slice a1 n1 c1).ownBlock = some k → k < w.heap.size) := fun hne k hk => h1.lt hne k hk
  have HT2 : Hid (b ≠ [] → ∀ k, (Value.slice a2 n2 c2).ownBlock = some k → k < w.heap.size) := fun hne k hk => h2.lt hne k hk
  clear hc h1 h2
  go_enter Try.func3, Try.ntmps3
  go_upto_region 3 with fail
  generalize w.alloc _ = w1 at *
  obtain ⟨g3, hg3⟩ : ∃ g3, g3 = w.heap.size := ⟨_, rfl⟩
  rw [← hg3] at HK1 HG3 HT1 HT2 ⊢
  have HGE := hide hg3
  clear hg3
  have c0 : w1.cell? ⟨g3, 0, none⟩ = some (.int .u8 (r.k.toNat : Nat)) := cell_of_row _ _ 0 _ _ _ ((unhide HK1).ce _ (List.mem_cons_self ..))
  have c1' : w1.cell? ⟨g3, 1, none⟩ = some (.slice a1 n1 c1) := cell_of_row _ _ 1 _ _ _ ((unhide HK1).ce _ (List.mem_cons_self ..))
  have HKS : Hid (∀ W, Below w1.heap.size w1 W → W.cell? ⟨g3, 0, none⟩ = some (.int .u8 (r.k.toNat : Nat)) ∧ W.cell? ⟨g3, 1, none⟩ = some (.slice a1 n1 c1) ∧ Below w1.heap.size w1 W) := fun W hb =>
    ⟨(hb.cell (p := ⟨g3, 0, none⟩) (World.block_lt_of_cell? _ _ c0)).trans c0, (hb.cell (p := ⟨g3, 1, none⟩) (World.block_lt_of_cell? _ _ c1')).trans c1', hb⟩
  go_region_held3 (fun W => W.cell? ⟨g3, 0, none⟩ = some (.int .u8 (r.k.toNat : Nat)) ∧ W.cell? ⟨g3, 1, none⟩ = some (.slice a1 n1 c1) ∧ Below w1.heap.size w1 W)
    ((refine unhide HKS _ ?_; first | assumption | exact (Below.refl _ _).drew | exact (by assumption : _ ∧ _ ∧ Below w1.heap.size w1 _).2.2.alloc (by assumption : _ ∧ _ ∧ Below w1.heap.size w1 _).2.2.size _ | exact hB4.alloc hB4.size _ | exact (hB4.setCell (p := ⟨_, 0, none⟩) (by first | exact Nat.le_refl _ | exact hB5.size) _).setCell (p := ⟨_, 1, none⟩) (by first | exact Nat.le_refl _ | exact hB5.size) _))
    (first
      | (go_at_call 9; refine (low_anew (.slice a1 n1 c1) r.d _ (((unhide HK1).byt (.slice a1 n1 c1, r.d) (List.mem_cons_of_mem _ (List.mem_cons_self ..))).kept fun k _ hk => (by assumption : _ ∧ _ ∧ Below w1.heap.size w1 _).2.2.block k hk) (unhide HN1)).mono ?_; rintro e w5 ⟨v5, rfl, hF5⟩; obtain ⟨va5, vc5, ve5, _⟩ := hF5.1.1.form; subst ve5; have hB5 := (by assumption : _ ∧ _ ∧ Below w1.heap.size w1 _).2.2.trans (hF5.1.2.2.mono (by assumption : _ ∧ _ ∧ Below w1.heap.size w1 _).2.2.size); (first | (have p5 : w5.heap[w1.heap.size]? = _ := kept_new (W := w1.drew) hF5.1.2.2; have P5 := hide p5; clear p5) | skip); have HF5 := hide hF5; clear hF5)
      | (go_at_call 9; refine (low_anew (.slice a2 n2 c2) b _ (((unhide HK1).byt (.slice a2 n2 c2, b) (List.mem_cons_self ..)).kept fun k _ hk => (by assumption : _ ∧ _ ∧ Below w1.heap.size w1 _).2.2.block k hk) (unhide HN2)).mono ?_; rintro e w4 ⟨v4, rfl, hF4⟩; obtain ⟨va4, vc4, ve4, _⟩ := hF4.1.1.form; subst ve4; have hB4 := (by assumption : _ ∧ _ ∧ Below w1.heap.size w1 _).2.2.trans (hF4.1.2.2.mono (by assumption : _ ∧ _ ∧ Below w1.heap.size w1 _).2.2.size); (first | (have q4 := kept_new (W := w5) hF4.1.2.2; have q40 : w4.cell? ⟨w5.heap.size, 0, none⟩ = some (.int .u8 0) := cell_of_row _ _ 0 _ _ _ q4; have q41 : w4.cell? ⟨w5.heap.size, 1, none⟩ = some (.slice none 0 0) := cell_of_row _ _ 1 _ _ _ q4; have q42 : w4.frozen? ⟨w5.heap.size, 0, none⟩ = false := frozen_of_row _ _ 0 _ _ q4; have q43 : w4.frozen? ⟨w5.heap.size, 1, none⟩ = false := frozen_of_row _ _ 1 _ _ q4; have Q4 := hide q4; clear q4) | skip); (first | (have p4 := kept_old hF4.1.2.2 (unhide P5); have p40 : w4.cell? ⟨w1.heap.size, 0, none⟩ = some (.int .u8 0) := cell_of_row _ _ 0 _ _ _ p4; have p41 : w4.cell? ⟨w1.heap.size, 1, none⟩ = some (.slice none 0 0) := cell_of_row _ _ 1 _ _ _ p4; have p42 : w4.frozen? ⟨w1.heap.size, 0, none⟩ = false := frozen_of_row _ _ 0 _ _ p4; have p43 : w4.frozen? ⟨w1.heap.size, 1, none⟩ = false := frozen_of_row _ _ 1 _ _ p4; have P4 := hide p4; clear p4) | skip); have HF4 := hide hF4; clear hF4))
  all_goals have h54 : Below w5.heap.size w5 w4 := by first | exact (unhide HF4).1.2.2 | exact ((Below.refl _ w5).alloc (Nat.le_refl _) _).trans ((unhide HF4).1.2.2.mono (by simp))
  all_goals have HK4 := hide (((((unhide HK1).later hB5).addB (unhide HF5).1.1).later h54).addB (unhide HF4).1.1)
  all_goals (first
    | (have HK6 := hide ((unhide HK4).store2 (unhide Q4) (by have hsz := unhide HG3; have h5 := hB5.size; have hge := unhide HGE; omega) (mem4 (fun _ => Fresh.apart (unhide HF4) (by simp)) (fun _ => Fresh.apart' (unhide HF5) (Nat.le_refl _)) (fun hne k hk => by have := unhide HT2 hne k hk; have hsz := unhide HG3; have h5 := hB5.size; have hge := unhide HGE; omega) (fun hne k hk => by have := unhide HT1 hne k hk; have hsz := unhide HG3; have h5 := hB5.size; have hge := unhide HGE; omega)) (mem1 (by show g3 ≠ _; have hsz := unhide HG3; have h5 := hB5.size; have hge := unhide HGE; omega)) (.int .u8 (r.k.toNat : Nat)) (.slice va5 r.d.length vc5)); clear HF4 HF5 h54 hB4 hB5 HK4 HKS c0 c1' Q4 q40 q41 q42 q43; generalize (w4.setCell _ _).setCell _ _ = W6 at *; generalize w5.heap.size = B6 at *)
    | (have HK6 := hide ((unhide HK4).store2 (unhide P4) (by have hsz := unhide HG3; have h5 := hB5.size; have hge := unhide HGE; omega) (mem4 (fun _ => Fresh.apart (unhide HF4) (Array.getElem?_eq_some_iff.1 (unhide P5)).1) (fun _ => Fresh.apart (unhide HF5) (by simp)) (fun hne k hk => by have := unhide HT2 hne k hk; have hsz := unhide HG3; have h5 := hB5.size; have hge := unhide HGE; omega) (fun hne k hk => by have := unhide HT1 hne k hk; have hsz := unhide HG3; have h5 := hB5.size; have hge := unhide HGE; omega)) (mem1 (by show g3 ≠ _; have hsz := unhide HG3; have h5 := hB5.size; have hge := unhide HGE; omega)) (.int .u8 (r.k.toNat : Nat)) (.slice va5 r.d.length vc5)); clear HF4 HF5 h54 hB4 hB5 HK4 HKS c0 c1' P4 p40 p41 p42 p43 P5; generalize (w4.setCell _ _).setCell _ _ = W6 at *; generalize w1.heap.size = B6 at *)
    | (have HK6 := hide ((unhide HK4).newC #[.int .u8 (r.k.toNat : Nat), .slice va5 r.d.length vc5]); clear HF4 HF5 h54 hB4 hB5 HK4 HKS c0 c1'; generalize w4.alloc _ = W6 at *; generalize w4.heap.size = B6 at *))
  all_goals generalize r.d.length = n5 at *
  all_goals have x0 : W6.cell? ⟨B6, 0, none⟩ = some (.int .u8 (r.k.toNat : Nat)) := cell_of_row _ _ 0 _ _ _ ((unhide HK6).ce (B6, #[.int .u8 (r.k.toNat : Nat), .slice va5 n5 vc5]) (List.mem_cons_self ..))
  all_goals have x1 : W6.cell? ⟨B6, 1, none⟩ = some (.slice va5 n5 vc5) := cell_of_row _ _ 1 _ _ _ ((unhide HK6).ce (B6, #[.int .u8 (r.k.toNat : Nat), .slice va5 n5 vc5]) (List.mem_cons_self ..))
  all_goals go_wp2_with fail
  all_goals refine ((unhide HC).put r va5 _ vc5 _ ((unhide HK6).byt (.slice va5 n5 vc5, r.d) (List.mem_cons_of_mem _ (List.mem_cons_self ..))) (unhide HN1)).mono ?_
  all_goals rintro e w7 ⟨x7, rfl, hX, hb⟩
  all_goals obtain ⟨xa, xc, ex7, _⟩ := hX.form
  all_goals subst ex7
  all_goals have HK7 := hide (((unhide HK6).later hb).addB hX)
  all_goals clear hX hb HK6 x0 x1
  all_goals have x0 : w7.cell? ⟨g3, 0, none⟩ = some (.int .u8 (r.k.toNat : Nat)) := cell_of_row _ _ 0 _ _ _ ((unhide HK7).ce (g3, #[.int .u8 (r.k.toNat : Nat), .slice a1 n1 c1]) (List.mem_cons_of_mem _ (List.mem_cons_self ..)))
  all_goals have x1 : w7.cell? ⟨g3, 1, none⟩ = some (.slice a1 n1 c1) := cell_of_row _ _ 1 _ _ _ ((unhide HK7).ce (g3, #[.int .u8 (r.k.toNat : Nat), .slice a1 n1 c1]) (List.mem_cons_of_mem _ (List.mem_cons_self ..)))
  all_goals go_wp2_with fail
  all_goals refine (refPut_any r a1 _ c1 _ ((unhide HK7).byt (.slice a1 n1 c1, r.d) (List.mem_cons_of_mem _ (List.mem_cons_of_mem _ (List.mem_cons_of_mem _ (List.mem_cons_of_mem _ (List.mem_cons_self ..)))))) (by omega)).mono ?_
  all_goals rintro e w8 ⟨y8, rfl, hF⟩
  all_goals obtain ⟨ya, yc, ey8, _⟩ := hF.1.1.form
  all_goals subst ey8
  all_goals have HK8 := hide (((unhide HK7).later hF.1.2.2).addB hF.1.1)
  all_goals clear hF HK7 x0 x1
  all_goals go_wp2_with fail
  all_goals refine (low_same _ _ (putOf r) (putOf r) _ ((unhide HK8).byt (.slice xa (putOf r).length xc, putOf r) (List.mem_cons_of_mem _ (List.mem_cons_self ..))) ((unhide HK8).byt (.slice ya (putOf r).length yc, putOf r) (List.mem_cons_self ..))).mono ?_
  all_goals rintro e w9 ⟨rfl, hw9⟩
  all_goals have HK9 := hide ((unhide HK8).eq hw9)
  all_goals clear hw9 HK8
  all_goals rw [show decide (putOf r = putOf r) = true from decide_eq_true rfl]
  all_goals have x0 : w9.cell? ⟨B6, 0, none⟩ = some (.int .u8 (r.k.toNat : Nat)) := cell_of_row _ _ 0 _ _ _ ((unhide HK9).ce (B6, #[.int .u8 (r.k.toNat : Nat), .slice va5 n5 vc5]) (List.mem_cons_self ..))
  all_goals have x1 : w9.cell? ⟨B6, 1, none⟩ = some (.slice va5 n5 vc5) := cell_of_row _ _ 1 _ _ _ ((unhide HK9).ce (B6, #[.int .u8 (r.k.toNat : Nat), .slice va5 n5 vc5]) (List.mem_cons_self ..))
  all_goals have y0 : w9.cell? ⟨g3, 0, none⟩ = some (.int .u8 (r.k.toNat : Nat)) := cell_of_row _ _ 0 _ _ _ ((unhide HK9).ce (g3, #[.int .u8 (r.k.toNat : Nat), .slice a1 n1 c1]) (List.mem_cons_of_mem _ (List.mem_cons_self ..)))
  all_goals have y1 : w9.cell? ⟨g3, 1, none⟩ = some (.slice a1 n1 c1) := cell_of_row _ _ 1 _ _ _ ((unhide HK9).ce (g3, #[.int .u8 (r.k.toNat : Nat), .slice a1 n1 c1]) (List.mem_cons_of_mem _ (List.mem_cons_self ..)))
  all_goals go_wp2_with fail
  all_goals refine (low_sameRec r r va5 a1 n5 vc5 n1 c1 _ ((unhide HK9).byt (.slice va5 n5 vc5, r.d) (List.mem_cons_of_mem _ (List.mem_cons_of_mem _ (List.mem_cons_of_mem _ (List.mem_cons_self ..))))) ((unhide HK9).byt (.slice a1 n1 c1, r.d) (List.mem_cons_of_mem _ (List.mem_cons_of_mem _ (List.mem_cons_of_mem _ (List.mem_cons_of_mem _ (List.mem_cons_of_mem _ (List.mem_cons_self ..)))))))).mono ?_
  all_goals rintro e w10 ⟨rfl, hb⟩
  all_goals have HK10 := hide ((unhide HK9).later hb)
  all_goals clear hb HK9 x0 x1 y0 y1
  all_goals rw [show sameRec r r = true from (sameRec_iff r r).2 rfl]
  all_goals go_wp2_with fail
  all_goals refine ((unhide HC).take va4 _ vc4 b _ ((unhide HK10).byt (.slice va4 b.length vc4, b) (List.mem_cons_of_mem _ (List.mem_cons_of_mem _ (List.mem_cons_self ..)))) (unhide HN2)).mono ?_
  all_goals rintro e w11 ⟨p1, p2, p3, rfl, hF⟩
  all_goals have HK11 := hide ((((unhide HK10).later hF.1.2.2).addB hF.1.1).newC #[.int .u8 ((takeRec b).k.toNat : Nat), .slice p1 p2 p3])
  all_goals clear hF HK10
  all_goals go_upto_region 9 with fail
  all_goals generalize w11.alloc _ = W11 at *
  all_goals generalize w11.heap.size = B11 at *
  all_goals go_wp2_with fail
  all_goals refine (refTake_any a2 _ c2 b _ ((unhide HK11).byt (.slice a2 n2 c2, b) (List.mem_cons_of_mem _ (List.mem_cons_of_mem _ (List.mem_cons_of_mem _ (List.mem_cons_of_mem _ (List.mem_cons_of_mem _ (List.mem_cons_self ..)))))))).mono ?_
  all_goals rintro e w12 ⟨q1, q2, q3, rfl, hF⟩
  all_goals have HK12 := hide ((((unhide HK11).later hF.1.2.2).addB hF.1.1).newC #[.int .u8 ((takeRec b).k.toNat : Nat), .slice q1 q2 q3])
  all_goals clear hF HK11
  all_goals go_upto_region 10 with fail
  all_goals generalize w12.alloc _ = W12 at *
  all_goals generalize w12.heap.size = B12 at *
  all_goals have x0 : W12.cell? ⟨B12, 0, none⟩ = some (.int .u8 ((takeRec b).k.toNat : Nat)) := cell_of_row _ _ 0 _ _ _ ((unhide HK12).ce (B12, #[.int .u8 ((takeRec b).k.toNat : Nat), .slice q1 q2 q3]) (List.mem_cons_self ..))
  all_goals have x1 : W12.cell? ⟨B12, 1, none⟩ = some (.slice q1 q2 q3) := cell_of_row _ _ 1 _ _ _ ((unhide HK12).ce (B12, #[.int .u8 ((takeRec b).k.toNat : Nat), .slice q1 q2 q3]) (List.mem_cons_self ..))
  all_goals have y0 : W12.cell? ⟨B11, 0, none⟩ = some (.int .u8 ((takeRec b).k.toNat : Nat)) := cell_of_row _ _ 0 _ _ _ ((unhide HK12).ce (B11, #[.int .u8 ((takeRec b).k.toNat : Nat), .slice p1 p2 p3]) (List.mem_cons_of_mem _ (List.mem_cons_self ..)))
  all_goals have y1 : W12.cell? ⟨B11, 1, none⟩ = some (.slice p1 p2 p3) := cell_of_row _ _ 1 _ _ _ ((unhide HK12).ce (B11, #[.int .u8 ((takeRec b).k.toNat : Nat), .slice p1 p2 p3]) (List.mem_cons_of_mem _ (List.mem_cons_self ..)))
  all_goals go_wp2_with fail
  all_goals refine (low_sameRec (takeRec b) (takeRec b) p1 q1 p2 p3 q2 q3 _ ((unhide HK12).byt (.slice p1 p2 p3, (takeRec b).d) (List.mem_cons_of_mem _ (List.mem_cons_self ..))) ((unhide HK12).byt (.slice q1 q2 q3, (takeRec b).d) (List.mem_cons_self ..))).mono ?_
  all_goals rintro e w13 ⟨rfl, hb⟩
  all_goals have HK13 := hide ((unhide HK12).later hb)
  all_goals clear hb HK12 x0 x1 y0 y1
  all_goals rw [show sameRec (takeRec b) (takeRec b) = true from (sameRec_iff _ _).2 rfl]
  all_goals go_wp2_with fail
  all_goals refine ((unhide HC).all va4 _ vc4 b _ ((unhide HK13).byt (.slice va4 b.length vc4, b) (List.mem_cons_of_mem _ (List.mem_cons_of_mem _ (List.mem_cons_of_mem _ (List.mem_cons_of_mem _ (List.mem_cons_self ..)))))) (unhide HN2)).mono ?_
  all_goals rintro e w14 ⟨l14, rs, m14, x14, rfl, hA, hR, hb⟩
  all_goals have HK14 := hide ((unhide HK13).later hb)
  all_goals have HA := hide hA
  all_goals have HR14 := hide hR
  all_goals clear hb hA hR HK13
  all_goals go_wp2_with fail
  all_goals refine (refAll_any a2 _ c2 b _ ((unhide HK14).byt (.slice a2 n2 c2, b) (List.mem_cons_of_mem _ (List.mem_cons_of_mem _ (List.mem_cons_of_mem _ (List.mem_cons_of_mem _ (List.mem_cons_of_mem _ (List.mem_cons_of_mem _ (List.mem_cons_self ..)))))))) (by omega)).mono ?_
  all_goals rintro e w15 ⟨l15, rs', m', x', rfl, hA', hR'⟩
  all_goals obtain ⟨e1, e2, e3⟩ := hA'.same (unhide HA)
  all_goals subst e1 e2 e3
  all_goals have HK15 := hide ((unhide HK14).later hR'.bb)
  all_goals have HRA := hide ((unhide HR14).later hR'.bb)
  all_goals have HRB := hide hR'.recsAt
  all_goals have HLEN : Hid (rs'.length ≤ 1048576) := Nat.le_trans (AllIs.few hA') (unhide HN2)
  all_goals obtain ⟨la, lc, el14, _⟩ := (unhide HR14).form
  all_goals subst el14
  all_goals obtain ⟨ka, kc, el15, _⟩ := hR'.recsAt.form
  all_goals subst el15
  all_goals clear hA' hR' HK14 HR14 HA
  all_goals go_upto_region 17 with fail
  all_goals go_wp2_with fail
  all_goals refine (low_sameRecs _ _ rs' rs' _ (unhide HRA) (unhide HRB) (unhide HLEN)).mono ?_
  all_goals rintro e w16 ⟨bb, rfl, hiff, hb⟩
  all_goals obtain rfl : bb = true := hiff.2 rfl
  all_goals have HK16 := hide ((unhide HK15).later hb)
  all_goals clear hiff hb HK15 HRA HRB HLEN
  all_goals go_wp2_with fail
  all_goals refine (low_same _ _ b b _ ((unhide HK16).byt (.slice a2 n2 c2, b) (List.mem_cons_of_mem _ (List.mem_cons_of_mem _ (List.mem_cons_of_mem _ (List.mem_cons_of_mem _ (List.mem_cons_of_mem _ (List.mem_cons_of_mem _ (List.mem_cons_self ..)))))))) ((unhide HK16).byt (.slice va4 b.length vc4, b) (List.mem_cons_of_mem _ (List.mem_cons_of_mem _ (List.mem_cons_of_mem _ (List.mem_cons_of_mem _ (List.mem_cons_self ..))))))).mono ?_
  all_goals rintro e w17 ⟨rfl, hw17⟩
  all_goals have HK17 := hide ((unhide HK16).eq hw17)
  all_goals clear hw17 HK16
  all_goals rw [show decide (b = b) = true from decide_eq_true rfl]
  all_goals go_wp2_with fail
  all_goals refine ((unhide HC).long z _).mono ?_
  all_goals rintro e w18 ⟨rfl, hb⟩
  all_goals have HK18 := hide ((unhide HK17).later hb)
  all_goals clear hb HK17
  all_goals (first | rw [if_pos ⟨by assumption, by assumption⟩] | rw [if_neg (by omega)])
  all_goals go_wp2_with fail
  all_goals refine (awake_any (unhide HC) _).mono ?_
  all_goals rintro e w19 ⟨rfl, hb⟩
  all_goals have HK19 := hide ((unhide HK18).later hb)
  all_goals clear hb HK18
  all_goals go_wp2_with fail
  all_goals go_ret
  all_goals exact ⟨rfl, (unhide HK19).bb⟩

theorem recTells_any (b : List UInt8) (h1 : Bytes w (.slice a1 n1 c1) r.d) (h2 : Bytes w (.slice a2 n2 c2) b) : Calls Try.prog 3 #[.agg #[.int .u8 (r.k.toNat : Nat), .slice a1 n1 c1], .slice a2 n2 c2, .int .i64 z] w fun e w' => e = .returned (.bool true) ∧ Below w.heap.size w w' := by
  by_cases hl : 9000 < n1 ∨ 9000 < n2
  · exact recTells_long hc r a1 a2 n1 c1 n2 c2 z w hl
  · exact recTells_main hc r a1 a2 n1 c1 n2 c2 z w b h1 h2 (by omega) (by omega)
end
end Go.Proofs.Ytfaoailiamcchaa
