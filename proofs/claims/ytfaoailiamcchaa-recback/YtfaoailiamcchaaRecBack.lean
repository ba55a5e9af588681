/- RecBack, walked over RecOk. -/
import Derived.Test.YtfaoailiamcchaaRecAny
import Derived.Test.YtfaoailiamcchaaQuietB
namespace Go.Proofs.Ytfaoailiamcchaa
open Go.RowKit

/-- A row of bytes of our own that may change, and what stays beside it. -/
structure Bump (w : World) (v : Value) (n : Nat) (L : List (Value × List UInt8)) (M : List (Nat × Array Value)) (W : World) : Prop where
  own : ∃ bs : List UInt8, bs.length = n ∧ Own w v bs W
  byt : ∀ p ∈ L, Bytes W p.1 p.2 ∧ (p.2 ≠ [] → ∀ k, p.1.ownBlock = some k → v.ownBlock ≠ some k)
  ce : ∀ p ∈ M, W.heap[p.1]? = some (Obj.cells p.2 24 (0, 0)) ∧ v.ownBlock ≠ some p.1
theorem Bump.start {w w0 w1 : World} {L : List (Value × List UInt8)} {M : List (Nat × Array Value)} {v : Value} {bs : List UInt8} (hK : Kp w w0 L M) (hF : FreshO w0 w1 v bs) : Bump w v bs.length L M w1 := by
  have hK1 := hK.later hF.1.2.2
  refine ⟨⟨bs, rfl, hF.own hK.bb⟩, fun p hp => ⟨hK1.byt p hp, fun hne k hk e => ?_⟩, fun p hp => ⟨hK1.ce p hp, fun e => ?_⟩⟩
  · have h1 := (hK.byt p hp).lt hne k hk
    have h2 := (hF.1.2.1 k e).1
    omega
  · have h1 := (Array.getElem?_eq_some_iff.1 (hK.ce p hp)).1
    have h2 := (hF.1.2.1 _ e).1
    omega
theorem Bump.kp {w W : World} {v : Value} {n : Nat} {L : List (Value × List UInt8)} {M : List (Nat × Array Value)} (h : Bump w v n L M W) : Kp w W L M := by
  obtain ⟨bs, _, ho⟩ := h.own
  exact ⟨ho.bb, fun p hp => (h.byt p hp).1, fun p hp => (h.ce p hp).1⟩
theorem Bump.later {w W W' : World} {v : Value} {n : Nat} {L : List (Value × List UInt8)} {M : List (Nat × Array Value)} (h : Bump w v n L M W) (hb : Below W.heap.size W W') : Bump w v n L M W' := by
  obtain ⟨bs, hl, ho⟩ := h.own
  have hk := h.kp.later hb
  exact ⟨⟨bs, hl, ho.later hb⟩, fun p hp => ⟨hk.byt p hp, (h.byt p hp).2⟩, fun p hp => ⟨hk.ce p hp, (h.ce p hp).2⟩⟩
theorem Bump.newC {w W : World} {v : Value} {n : Nat} {L : List (Value × List UInt8)} {M : List (Nat × Array Value)} (h : Bump w v n L M W) (cs : Array Value) : Bump w v n L ((W.heap.size, cs) :: M) (W.alloc (.cells cs 24)) := by
  obtain ⟨bs, hl, ho⟩ := h.own
  have h2 := h.later ((Below.refl _ W).alloc (Nat.le_refl _) (.cells cs 24))
  refine ⟨h2.own, h2.byt, fun p hp => ?_⟩
  rcases List.mem_cons.1 hp with e | e
  · rw [e]
    exact ⟨heap_alloc_new W _, fun e' => by have := (ho.own.lt _ e').2; omega⟩
  · exact h2.ce p e
theorem Bump.more {w W W' : World} {v v' : Value} {bs : List UInt8} {n : Nat} {L : List (Value × List UInt8)} {M : List (Nat × Array Value)} (h : Bump w v n L M W) (hF : FreshO W W' v' bs) : Bump w v n ((v', bs) :: L) M W' := by
  obtain ⟨cs, hl, ho⟩ := h.own
  have h2 := h.later hF.1.2.2
  refine ⟨h2.own, fun p hp => ?_, h2.ce⟩
  rcases List.mem_cons.1 hp with e | e
  · rw [e]
    exact ⟨hF.1.1, fun _ k hk e' => by have h3 := (hF.1.2.1 k hk).1; have h4 := (ho.own.lt k e').2; omega⟩
  · exact h2.byt p e
/-- A byte is read, and written over. -/
theorem Bump.step {w W : World} {a : Option Addr} {n c : Nat} {L : List (Value × List UInt8)} {M : List (Nat × Array Value)} (h : Bump w (.slice a n c) n L M W) {j : Nat} (hj : j < n) : ∃ g x, a = some ⟨g, 0, none⟩ ∧ x < 256 ∧ W.cell? ⟨g, j, none⟩ = some (.int .u8 ((x : Nat) : Int)) ∧ W.frozen? ⟨g, j, none⟩ = false ∧
    ∀ y : Nat, y < 256 → Bump w (.slice a n c) n L M (W.setCell ⟨g, j, none⟩ (.int .u8 ((y : Nat) : Int))) := by
  obtain ⟨bs, hl, ho⟩ := h.own
  obtain ⟨g, ha, hcell, hfr, hset⟩ := own_at ho.own hl hj
  have hg : (Value.slice a n c).ownBlock = some g := by rw [ha]; rfl
  have hk : ∀ (y : Value) k, k ≠ g → (W.setCell ⟨g, j, none⟩ y).heap[k]? = W.heap[k]? := fun y k hk => by rw [Below.heap_setCell _ _ _ _ (by exact hk)]
  refine ⟨g, _, ha, (bs.getD j 0).toNat_lt, hcell, hfr, fun y hy => ⟨⟨bs.set j (UInt8.ofNat y), by rw [List.length_set]; exact hl, ?_, ho.new, ho.bb.setCell (p := ⟨g, j, none⟩) (ho.new g hg) _⟩, fun p hp => ⟨(h.byt p hp).1.apart (B := g) (fun hne k hk e => (h.byt p hp).2 hne k hk (by rw [e]; exact hg)) (hk _), (h.byt p hp).2⟩, fun p hp => ⟨?_, (h.ce p hp).2⟩⟩⟩
  · have h2 := hset (UInt8.ofNat y)
    rw [u8_of y hy] at h2
    exact h2
  · rw [hk _ _ (fun e => (h.ce p hp).2 (by rw [e]; exact hg))]
    exact (h.ce p hp).1

section
variable (hc : RecOk) (r s : RecD) (a1 a2 a3 : Option Addr) (n1 c1 n2 c2 n3 c3 : Nat) (w : World)
include hc


set_option maxRecDepth 100000 in
set_option maxHeartbeats 4000000 in
theorem recBack_long (hl : 5000 < n1 ∨ 5000 < n2 ∨ 100 < n3) : Calls Try.prog 4 #[.agg #[.int .u8 (r.k.toNat : Nat), .slice a1 n1 c1], .agg #[.int .u8 (s.k.toNat : Nat), .slice a2 n2 c2], .slice a3 n3 c3] w fun e w' => e = .returned (.bool true) ∧ Below w.heap.size w w' := by
  have HC := hide hc
  clear hc
  have hcase : (n1 : Int) > 5000 ∨ (¬ (n1 : Int) > 5000 ∧ (n2 : Int) > 5000) ∨ (¬ (n1 : Int) > 5000 ∧ ¬ (n2 : Int) > 5000 ∧ (n3 : Int) > 100) := by omega
  clear hl
  rcases hcase with g1 | ⟨g1, g2⟩ | ⟨g1, g2, g3⟩
  all_goals go_enter Try.func4, Try.ntmps4
  all_goals go_wp2_with fail
  all_goals refine (awake_any (unhide HC) _).mono ?_
  all_goals rintro e w2 ⟨rfl, hb⟩
  all_goals have HB : Hid (Below w.heap.size w w2) := (((Below.refl _ w).alloc (Nat.le_refl _) _).alloc (by simp) _).trans (hb.mono (by simp; omega))
  all_goals clear hb
  all_goals go_wp2_with fail
  all_goals go_ret
  all_goals exact ⟨rfl, unhide HB⟩


omit hc in
theorem same_put {r s : RecD} (hr : r.right) (hs : s.right) : decide (r.put = s.put) = sameRec r s := by
  by_cases h : r = s
  · rw [h, decide_eq_true rfl, (sameRec_iff s s).2 rfl]
  · rw [decide_eq_false fun e => h (put_inj hr hs e)]
    cases e : sameRec r s
    · rfl
    · exact absurd ((sameRec_iff r s).1 e) h
omit hc in
theorem put_err {s : RecD} (h : ¬ putErr s = 0) : putErr s = 30 ∨ putErr s = 31 := by
  unfold putErr at h ⊢
  split
  · exact .inl rfl
  · split
    · exact .inr rfl
    · rename_i h1 h2
      rw [if_neg h1, if_neg h2] at h
      exact absurd rfl h
omit hc in
theorem bad_cases {r : RecD} {n1 : Nat} (hr : ¬ r.right) (hl : r.d.length = n1) : (putErr r = 30 ∧ ¬ ((r.k.toNat : Nat) : Int) ≥ 1) ∨ (putErr r = 30 ∧ ((r.k.toNat : Nat) : Int) ≥ 1 ∧ ¬ ((r.k.toNat : Nat) : Int) ≤ 2) ∨ (putErr r = 31 ∧ ((r.k.toNat : Nat) : Int) ≥ 1 ∧ ((r.k.toNat : Nat) : Int) ≤ 2 ∧ ¬ (n1 : Int) ≤ 4096) := by
  unfold RecD.right at hr
  unfold putErr
  by_cases k1 : r.k.toNat < 1
  · exact .inl ⟨if_pos (.inl k1), by omega⟩
  · by_cases k2 : 2 < r.k.toNat
    · exact .inr (.inl ⟨if_pos (.inr k2), by omega, by omega⟩)
    · refine .inr (.inr ⟨?_, by omega, by omega, by omega⟩)
      rw [if_neg (by omega), if_pos (by omega)]

set_option maxRecDepth 100000 in
set_option maxHeartbeats 8000000 in
theorem recBack_bad (more : List UInt8) (h1 : Bytes w (.slice a1 n1 c1) r.d) (h2 : Bytes w (.slice a2 n2 c2) s.d) (h3 : Bytes w (.slice a3 n3 c3) more) (hl1 : n1 ≤ 5000) (hl2 : n2 ≤ 5000) (hl3 : n3 ≤ 100) (hr : ¬ r.right) : Calls Try.prog 4 #[.agg #[.int .u8 (r.k.toNat : Nat), .slice a1 n1 c1], .agg #[.int .u8 (s.k.toNat : Nat), .slice a2 n2 c2], .slice a3 n3 c3] w fun e w' => e = .returned (.bool true) ∧ Below w.heap.size w w' := by
  have HC := hide hc
  have HN1 : Hid (n1 ≤ 1048576) := by show _ ≤ _; omega
  have HN2 : Hid (n2 ≤ 1048576) := by show _ ≤ _; omega
  have g1 : ¬ (n1 : Int) > 5000 := by omega
  have g2 : ¬ (n2 : Int) > 5000 := by omega
  have g3 : ¬ (n3 : Int) > 100 := by omega
  have HL1 := hide (bytes_len h1).1
  have HL3 := hide (bytes_len h3).1
  have HK1 := hide ((((((Kp.start w).addB h3).addB h2).addB h1).newC #[.int .u8 (r.k.toNat : Nat), .slice a1 n1 c1]).newC #[.int .u8 (s.k.toNat : Nat), .slice a2 n2 c2])
  rw [World.size_alloc] at HK1
  clear hc h1 h2 h3
  go_enter Try.func4, Try.ntmps4
  go_upto_region 3 with fail
  generalize (w.alloc _).alloc _ = w1 at *
  generalize w.heap.size + 1 = B4 at *
  obtain ⟨B3, hB3⟩ : ∃ B3, B3 = w.heap.size := ⟨_, rfl⟩
  rw [← hB3] at HK1 ⊢
  have HB3 := hide hB3
  clear hB3
  have x0 : w1.cell? ⟨B3, 0, none⟩ = some (.int .u8 (r.k.toNat : Nat)) := cell_of_row _ _ 0 _ _ _ ((unhide HK1).ce (B3, #[.int .u8 (r.k.toNat : Nat), .slice a1 n1 c1]) (List.mem_cons_of_mem _ (List.mem_cons_self ..)))
  have x1 : w1.cell? ⟨B3, 1, none⟩ = some (.slice a1 n1 c1) := cell_of_row _ _ 1 _ _ _ ((unhide HK1).ce (B3, #[.int .u8 (r.k.toNat : Nat), .slice a1 n1 c1]) (List.mem_cons_of_mem _ (List.mem_cons_self ..)))
  go_wp2_with fail
  refine ((unhide HC).put r a1 n1 c1 _ ((unhide HK1).byt (.slice a1 n1 c1, r.d) (List.mem_cons_self ..)) (unhide HN1)).mono ?_
  rintro e w2 ⟨x2, rfl, hX, hb⟩
  have HK2 := hide (((unhide HK1).later hb).addB hX)
  obtain ⟨xa, xc, ex, _⟩ := hX.form
  subst ex
  clear hX hb HK1 x0 x1
  have x0 : w2.cell? ⟨B4, 0, none⟩ = some (.int .u8 (s.k.toNat : Nat)) := cell_of_row _ _ 0 _ _ _ ((unhide HK2).ce (B4, #[.int .u8 (s.k.toNat : Nat), .slice a2 n2 c2]) (List.mem_cons_self ..))
  have x1 : w2.cell? ⟨B4, 1, none⟩ = some (.slice a2 n2 c2) := cell_of_row _ _ 1 _ _ _ ((unhide HK2).ce (B4, #[.int .u8 (s.k.toNat : Nat), .slice a2 n2 c2]) (List.mem_cons_self ..))
  go_wp2_with fail
  refine ((unhide HC).put s a2 n2 c2 _ ((unhide HK2).byt (.slice a2 n2 c2, s.d) (List.mem_cons_of_mem _ (List.mem_cons_of_mem _ (List.mem_cons_self ..)))) (unhide HN2)).mono ?_
  rintro e w3 ⟨y3, rfl, hX, hb⟩
  have HK3 := hide (((unhide HK2).later hb).addB hX)
  obtain ⟨ya, yc, ey, _⟩ := hX.form
  subst ey
  clear hX hb HK2 x0 x1
  have x0 : w3.cell? ⟨B3, 0, none⟩ = some (.int .u8 (r.k.toNat : Nat)) := cell_of_row _ _ 0 _ _ _ ((unhide HK3).ce (B3, #[.int .u8 (r.k.toNat : Nat), .slice a1 n1 c1]) (List.mem_cons_of_mem _ (List.mem_cons_self ..)))
  have x1 : w3.cell? ⟨B3, 1, none⟩ = some (.slice a1 n1 c1) := cell_of_row _ _ 1 _ _ _ ((unhide HK3).ce (B3, #[.int .u8 (r.k.toNat : Nat), .slice a1 n1 c1]) (List.mem_cons_of_mem _ (List.mem_cons_self ..)))
  have HPO : Hid (putOf r = []) := if_neg (fun h => hr (putErr_zero.1 h))
  rw [unhide HPO]
  have hcase : (putErr r = 30 ∧ ¬ ((r.k.toNat : Nat) : Int) ≥ 1) ∨ (putErr r = 30 ∧ ((r.k.toNat : Nat) : Int) ≥ 1 ∧ ¬ ((r.k.toNat : Nat) : Int) ≤ 2) ∨ (putErr r = 31 ∧ ((r.k.toNat : Nat) : Int) ≥ 1 ∧ ((r.k.toNat : Nat) : Int) ≤ 2 ∧ ¬ (n1 : Int) ≤ 4096) := bad_cases hr (unhide HL1)
  rcases hcase with ⟨he, k1⟩ | ⟨he, k1, k2⟩ | ⟨he, k1, k2, k3⟩
  all_goals rw [he]
  all_goals go_wp2_with fail
  all_goals refine (awake_any (unhide HC) _).mono ?_
  all_goals rintro e w4 ⟨rfl, hb⟩
  all_goals have HK4 := hide ((unhide HK3).later hb)
  all_goals clear hb HK3
  all_goals go_wp2_with fail
  all_goals go_ret
  all_goals exact ⟨rfl, (unhide HK4).bb⟩


set_option maxRecDepth 100000 in
set_option maxHeartbeats 16000000 in
theorem recBack_main (more : List UInt8) (h1 : Bytes w (.slice a1 n1 c1) r.d) (h2 : Bytes w (.slice a2 n2 c2) s.d) (h3 : Bytes w (.slice a3 n3 c3) more) (hl1 : n1 ≤ 5000) (hl2 : n2 ≤ 5000) (hl3 : n3 ≤ 100) (hr : r.right) : Calls Try.prog 4 #[.agg #[.int .u8 (r.k.toNat : Nat), .slice a1 n1 c1], .agg #[.int .u8 (s.k.toNat : Nat), .slice a2 n2 c2], .slice a3 n3 c3] w fun e w' => e = .returned (.bool true) ∧ Below w.heap.size w w' := by
  obtain ⟨ti, hti, hz0, hz1, hz2⟩ := infoByte
  have HC := hide hc
  have HN1 : Hid (n1 ≤ 1048576) := by show _ ≤ _; omega
  have HN2 : Hid (n2 ≤ 1048576) := by show _ ≤ _; omega
  have g1 : ¬ (n1 : Int) > 5000 := by omega
  have g2 : ¬ (n2 : Int) > 5000 := by omega
  have g3 : ¬ (n3 : Int) > 100 := by omega
  have HL1 := hide (bytes_len h1).1
  have HL3 := hide (bytes_len h3).1
  have HK1 := hide ((((((Kp.start w).addB h3).addB h2).addB h1).newC #[.int .u8 (r.k.toNat : Nat), .slice a1 n1 c1]).newC #[.int .u8 (s.k.toNat : Nat), .slice a2 n2 c2])
  rw [World.size_alloc] at HK1
  clear hc h1 h2 h3
  go_enter Try.func4, Try.ntmps4
  go_upto_region 3 with fail
  generalize (w.alloc _).alloc _ = w1 at *
  generalize w.heap.size + 1 = B4 at *
  obtain ⟨B3, hB3⟩ : ∃ B3, B3 = w.heap.size := ⟨_, rfl⟩
  rw [← hB3] at HK1 ⊢
  have HB3 := hide hB3
  clear hB3
  have x0 : w1.cell? ⟨B3, 0, none⟩ = some (.int .u8 (r.k.toNat : Nat)) := cell_of_row _ _ 0 _ _ _ ((unhide HK1).ce (B3, #[.int .u8 (r.k.toNat : Nat), .slice a1 n1 c1]) (List.mem_cons_of_mem _ (List.mem_cons_self ..)))
  have x1 : w1.cell? ⟨B3, 1, none⟩ = some (.slice a1 n1 c1) := cell_of_row _ _ 1 _ _ _ ((unhide HK1).ce (B3, #[.int .u8 (r.k.toNat : Nat), .slice a1 n1 c1]) (List.mem_cons_of_mem _ (List.mem_cons_self ..)))
  go_wp2_with fail
  refine ((unhide HC).put r a1 n1 c1 _ ((unhide HK1).byt (.slice a1 n1 c1, r.d) (List.mem_cons_self ..)) (unhide HN1)).mono ?_
  rintro e w2 ⟨x2, rfl, hX, hb⟩
  have HK2 := hide (((unhide HK1).later hb).addB hX)
  obtain ⟨xa, xc, ex, _⟩ := hX.form
  subst ex
  clear hX hb HK1 x0 x1
  have x0 : w2.cell? ⟨B4, 0, none⟩ = some (.int .u8 (s.k.toNat : Nat)) := cell_of_row _ _ 0 _ _ _ ((unhide HK2).ce (B4, #[.int .u8 (s.k.toNat : Nat), .slice a2 n2 c2]) (List.mem_cons_self ..))
  have x1 : w2.cell? ⟨B4, 1, none⟩ = some (.slice a2 n2 c2) := cell_of_row _ _ 1 _ _ _ ((unhide HK2).ce (B4, #[.int .u8 (s.k.toNat : Nat), .slice a2 n2 c2]) (List.mem_cons_self ..))
  go_wp2_with fail
  refine ((unhide HC).put s a2 n2 c2 _ ((unhide HK2).byt (.slice a2 n2 c2, s.d) (List.mem_cons_of_mem _ (List.mem_cons_of_mem _ (List.mem_cons_self ..)))) (unhide HN2)).mono ?_
  rintro e w3 ⟨y3, rfl, hX, hb⟩
  have HK3 := hide (((unhide HK2).later hb).addB hX)
  obtain ⟨ya, yc, ey, _⟩ := hX.form
  subst ey
  clear hX hb HK2 x0 x1
  have x0 : w3.cell? ⟨B3, 0, none⟩ = some (.int .u8 (r.k.toNat : Nat)) := cell_of_row _ _ 0 _ _ _ ((unhide HK3).ce (B3, #[.int .u8 (r.k.toNat : Nat), .slice a1 n1 c1]) (List.mem_cons_of_mem _ (List.mem_cons_self ..)))
  have x1 : w3.cell? ⟨B3, 1, none⟩ = some (.slice a1 n1 c1) := cell_of_row _ _ 1 _ _ _ ((unhide HK3).ce (B3, #[.int .u8 (r.k.toNat : Nat), .slice a1 n1 c1]) (List.mem_cons_of_mem _ (List.mem_cons_self ..)))
  have HER : Hid (putErr r = 0) := putErr_zero.2 hr
  have HPO : Hid (putOf r = r.put) := if_pos (unhide HER)
  have HR := hide hr
  rw [unhide HER]
  obtain ⟨NB, hNB⟩ : ∃ NB, NB = r.put.length := ⟨_, rfl⟩
  rw [unhide HPO, ← hNB] at HK3
  rw [unhide HPO, ← hNB]
  have HNB : Hid (NB = 9 + n1) := by rw [hNB, put_len, unhide HL1]; rfl
  have HNP := hide hNB
  generalize (putOf s).length = NC at *
  have k1 : ((r.k.toNat : Nat) : Int) ≥ 1 := by have := hr.1; omega
  have k2 : ((r.k.toNat : Nat) : Int) ≤ 2 := by have := hr.1; omega
  have k3 : (n1 : Int) ≤ 4096 := by have := hr.2; have := unhide HL1; omega
  clear hr hNB
  go_wp2_with fail
  refine (low_anew _ r.put _ ((unhide HK3).byt (.slice xa NB xc, r.put) (List.mem_cons_of_mem _ (List.mem_cons_self ..))) (by rw [put_len, unhide HL1]; omega)).mono ?_
  rintro e w5 ⟨r5, rfl, hF⟩
  have HK5 := hide ((unhide HK3).later hF.1.2.2)
  have HO5 := hide (hF.own (Below.refl _ w3))
  clear hF x0 x1
  go_wp2_with (at_builtin; refine wpList_append_bytes _ rfl _ _ 22 rfl 5 ti (.int .u8 0) Try.underlying22 hti hz0 hz1 hz2 rfl _ r.put rfl (unhide HO5).own _ more rfl ((unhide HK5).byt (.slice a3 n3 c3, more) (List.mem_cons_of_mem _ (List.mem_cons_of_mem _ (List.mem_cons_of_mem _ (List.mem_cons_of_mem _ (List.mem_cons_self ..)))))) (by rw [put_len, unhide HL1]; have := unhide HL3; omega) ?_)
  rintro v6 w6 r1 r2 r3
  have HO6 : Hid (Own w3 v6 (r.put ++ more) w6) := (unhide HO5).grown (by simpa using r1) r2 (by simpa using r3)
  have HK6 := hide ((unhide HK3).later (unhide HO6).bb)
  clear r1 r2 r3 HK3 HK5 HO5
  obtain ⟨a6, c6, e6, _⟩ := (bytes_of_owns (unhide HO6).own).form
  subst e6
  have HB6 := hide (bytes_of_owns (unhide HO6).own)
  have HLL : Hid ((r.put ++ more).length ≤ 1048576) := by rw [List.length_append, put_len, unhide HL1]; have := unhide HL3; show _ ≤ _; omega
  clear HO6
  generalize (r.put ++ more).length = N6 at *
  go_wp2_with fail
  refine ((unhide HC).take a6 N6 c6 (r.put ++ more) _ (unhide HB6) (unhide HLL)).mono ?_
  rintro e w7 ⟨p1, p2, p3, rfl, hF⟩
  obtain ⟨t1, t2, t3⟩ := take_put r (unhide HR) more
  rw [unhide HL1, ← unhide HNB] at t2
  rw [t3] at hF
  rw [t1, t2, t3]
  clear t1 t2 t3 HB6 HLL
  obtain rfl : n1 = p2 := (unhide HL1).symm.trans (bytes_len hF.1.1).1
  have hS := Bump.start (unhide HK6) hF
  rw [unhide HL1] at hS
  have HBU := hide (hS.newC #[.int .u8 (r.k.toNat : Nat), .slice p1 n1 p3])
  have HX := hide (hF.1.1.alloc (.cells #[.int .u8 (r.k.toNat : Nat), .slice p1 n1 p3] 24))
  clear hF HK6 hS
  go_upto_region 11 with fail
  generalize w7.alloc _ = w8 at *
  generalize w7.heap.size = B12 at *
  have x0 : w8.cell? ⟨B3, 0, none⟩ = some (.int .u8 (r.k.toNat : Nat)) := cell_of_row _ _ 0 _ _ _ ((unhide HBU).ce (B3, #[.int .u8 (r.k.toNat : Nat), .slice a1 n1 c1]) (List.mem_cons_of_mem _ (List.mem_cons_of_mem _ (List.mem_cons_self ..)))).1
  have x1 : w8.cell? ⟨B3, 1, none⟩ = some (.slice a1 n1 c1) := cell_of_row _ _ 1 _ _ _ ((unhide HBU).ce (B3, #[.int .u8 (r.k.toNat : Nat), .slice a1 n1 c1]) (List.mem_cons_of_mem _ (List.mem_cons_of_mem _ (List.mem_cons_self ..)))).1
  go_wp2_with fail
  refine ((unhide HC).long (n1 : Int) _).mono ?_
  rintro e w9 ⟨rfl, hb⟩
  rw [show (if (0 : Int) ≤ (n1 : Int) ∧ (n1 : Int) ≤ 4096 then (n1 : Int) + 9 else 0) = ((NB : Nat) : Int) from by rw [if_pos ⟨by omega, k3⟩, unhide HNB]; omega]
  have HBU9 := hide ((unhide HBU).later hb)
  have HX9 : Hid (Bytes w9 _ _) := (unhide HX).kept fun k _ hk => hb.block k hk
  clear hb HBU HX x0 x1
  have x0 : w9.cell? ⟨B3, 0, none⟩ = some (.int .u8 (r.k.toNat : Nat)) := cell_of_row _ _ 0 _ _ _ ((unhide HBU9).ce (B3, #[.int .u8 (r.k.toNat : Nat), .slice a1 n1 c1]) (List.mem_cons_of_mem _ (List.mem_cons_of_mem _ (List.mem_cons_self ..)))).1
  have x1 : w9.cell? ⟨B3, 1, none⟩ = some (.slice a1 n1 c1) := cell_of_row _ _ 1 _ _ _ ((unhide HBU9).ce (B3, #[.int .u8 (r.k.toNat : Nat), .slice a1 n1 c1]) (List.mem_cons_of_mem _ (List.mem_cons_of_mem _ (List.mem_cons_self ..)))).1
  have y0 : w9.cell? ⟨B12, 0, none⟩ = some (.int .u8 (r.k.toNat : Nat)) := cell_of_row _ _ 0 _ _ _ ((unhide HBU9).ce (B12, #[.int .u8 (r.k.toNat : Nat), .slice p1 n1 p3]) (List.mem_cons_self ..)).1
  have y1 : w9.cell? ⟨B12, 1, none⟩ = some (.slice p1 n1 p3) := cell_of_row _ _ 1 _ _ _ ((unhide HBU9).ce (B12, #[.int .u8 (r.k.toNat : Nat), .slice p1 n1 p3]) (List.mem_cons_self ..)).1
  go_wp2_with fail
  refine (low_sameRec r r p1 a1 n1 p3 n1 c1 _ (unhide HX9) ((unhide HBU9).byt (.slice a1 n1 c1, r.d) (List.mem_cons_of_mem _ (List.mem_cons_of_mem _ (List.mem_cons_self ..)))).1).mono ?_
  rintro e w10 ⟨rfl, hb⟩
  rw [show sameRec r r = true from (sameRec_iff r r).2 rfl]
  have HBU10 := hide ((unhide HBU9).later hb)
  clear hb HBU9 HX9 x0 x1 y0 y1
  have y0 : w10.cell? ⟨B12, 0, none⟩ = some (.int .u8 (r.k.toNat : Nat)) := cell_of_row _ _ 0 _ _ _ ((unhide HBU10).ce (B12, #[.int .u8 (r.k.toNat : Nat), .slice p1 n1 p3]) (List.mem_cons_self ..)).1
  have y1 : w10.cell? ⟨B12, 1, none⟩ = some (.slice p1 n1 p3) := cell_of_row _ _ 1 _ _ _ ((unhide HBU10).ce (B12, #[.int .u8 (r.k.toNat : Nat), .slice p1 n1 p3]) (List.mem_cons_self ..)).1
  go_wp2_with fail
  go_loopw [109] (fun i W => ∃ j : Nat, j ≤ n1 ∧ i = .int .i64 j ∧ Bump w (.slice p1 n1 p3) n1 [(.slice ya NC yc, putOf s), (.slice xa NB xc, r.put), (.slice a1 n1 c1, r.d), (.slice a2 n2 c2, s.d), (.slice a3 n3 c3, more)] [(B12, #[.int .u8 (r.k.toNat : Nat), .slice p1 n1 p3]), (B4, #[.int .u8 (s.k.toNat : Nat), .slice a2 n2 c2]), (B3, #[.int .u8 (r.k.toNat : Nat), .slice a1 n1 c1])] W) (fun i _ => n1 - (intOf i).toNat)
  case atStart => exact ⟨0, Nat.zero_le _, rfl, unhide HBU10⟩
  case round =>
    obtain ⟨j, hj, rfl, hB⟩ := hrel
    have HBW := hide hB
    clear HBU10 hB
    by_cases hlt : j < n1
    · obtain ⟨g, x, ha, hx, hcell, hfr, hset⟩ := (unhide HBW).step hlt
      have HSET := hide hset
      clear hset
      have x0 : wr.cell? ⟨B12, 0, none⟩ = some (.int .u8 (r.k.toNat : Nat)) := cell_of_row _ _ 0 _ _ _ ((unhide HBW).ce (B12, #[.int .u8 (r.k.toNat : Nat), .slice p1 n1 p3]) (List.mem_cons_self ..)).1
      have x1 : wr.cell? ⟨B12, 1, none⟩ = some (.slice p1 n1 p3) := cell_of_row _ _ 1 _ _ _ ((unhide HBW).ce (B12, #[.int .u8 (r.k.toNat : Nat), .slice p1 n1 p3]) (List.mem_cons_self ..)).1
      subst ha
      have i1 : (j : Int) < (n1 : Int) := by omega
      go_wp2_with fail
      refine ⟨⟨j + 1, by omega, by go_num, ?_⟩, by simp [intOf]; omega⟩
      have h := unhide HSET ((x + 1) % 256) (by omega)
      have e : (((x + 1) % 256 : Nat) : Int) = ((x : Int) + 1) % 256 := by omega
      rw [e] at h
      exact h
    · have ej : n1 = j := by omega
      subst ej
      have HK11 := hide (unhide HBW).kp
      clear HBW
      go_wp2_with fail
      refine ((unhide HC).take xa NB xc r.put _ ((unhide HK11).byt (.slice xa NB xc, r.put) (List.mem_cons_of_mem _ (List.mem_cons_self ..))) (by have := unhide HNB; omega)).mono ?_
      rintro e w12 ⟨q1, q2, q3, rfl, hF⟩
      obtain ⟨t1, t2, t3⟩ := take_put r (unhide HR) []
      rw [List.append_nil] at t1 t2 t3
      rw [unhide HL1, ← unhide HNB] at t2
      rw [t3] at hF
      rw [t1, t2, t3]
      clear t1 t2 t3
      obtain rfl : n1 = q2 := (unhide HL1).symm.trans (bytes_len hF.1.1).1
      have hS := Bump.start (unhide HK11) hF
      rw [unhide HL1] at hS
      have HBV := hide (hS.newC #[.int .u8 (r.k.toNat : Nat), .slice q1 n1 q3])
      clear hF HK11 hS
      go_upto_region 19 with fail
      generalize w12.alloc _ = w13 at *
      generalize w12.heap.size = B16 at *
      go_wp2_with fail
      refine ((unhide HC).take xa NB xc r.put _ ((unhide HBV).byt (.slice xa NB xc, r.put) (List.mem_cons_of_mem _ (List.mem_cons_self ..))).1 (by have := unhide HNB; omega)).mono ?_
      rintro e w14 ⟨d1, d2, d3, rfl, hF⟩
      obtain ⟨t1, t2, t3⟩ := take_put r (unhide HR) []
      rw [List.append_nil] at t1 t2 t3
      rw [unhide HL1, ← unhide HNB] at t2
      rw [t3] at hF
      rw [t1, t2, t3]
      clear t1 t2 t3
      obtain rfl : n1 = d2 := (unhide HL1).symm.trans (bytes_len hF.1.1).1
      have HBV2 := hide (((unhide HBV).more hF).newC #[.int .u8 (r.k.toNat : Nat), .slice d1 n1 d3])
      clear hF HBV
      go_upto_region 20 with fail
      generalize w14.alloc _ = w15 at *
      generalize w14.heap.size = B19 at *
      have y0 : w15.cell? ⟨B16, 0, none⟩ = some (.int .u8 (r.k.toNat : Nat)) := cell_of_row _ _ 0 _ _ _ ((unhide HBV2).ce (B16, #[.int .u8 (r.k.toNat : Nat), .slice q1 n1 q3]) (List.mem_cons_of_mem _ (List.mem_cons_self ..))).1
      have y1 : w15.cell? ⟨B16, 1, none⟩ = some (.slice q1 n1 q3) := cell_of_row _ _ 1 _ _ _ ((unhide HBV2).ce (B16, #[.int .u8 (r.k.toNat : Nat), .slice q1 n1 q3]) (List.mem_cons_of_mem _ (List.mem_cons_self ..))).1
      go_wp2_with fail
      go_loopw [135] (fun i W => ∃ j : Nat, j ≤ n1 ∧ i = .int .i64 j ∧ Bump w (.slice q1 n1 q3) n1 ((.slice d1 n1 d3, r.d) :: [(.slice ya NC yc, putOf s), (.slice xa NB xc, r.put), (.slice a1 n1 c1, r.d), (.slice a2 n2 c2, s.d), (.slice a3 n3 c3, more)]) [(B19, #[.int .u8 (r.k.toNat : Nat), .slice d1 n1 d3]), (B16, #[.int .u8 (r.k.toNat : Nat), .slice q1 n1 q3]), (B12, #[.int .u8 (r.k.toNat : Nat), .slice p1 n1 p3]), (B4, #[.int .u8 (s.k.toNat : Nat), .slice a2 n2 c2]), (B3, #[.int .u8 (r.k.toNat : Nat), .slice a1 n1 c1])] W) (fun i _ => n1 - (intOf i).toNat)
      case atStart => exact ⟨0, Nat.zero_le _, rfl, unhide HBV2⟩
      case round =>
        obtain ⟨j, hj, rfl, hB⟩ := hrel
        have HBW := hide hB
        clear HBV2 hB
        by_cases hlt : j < n1
        · obtain ⟨g, x, ha, hx, hcell, hfr, hset⟩ := (unhide HBW).step hlt
          have HSET := hide hset
          clear hset
          have x0 : wr.cell? ⟨B16, 0, none⟩ = some (.int .u8 (r.k.toNat : Nat)) := cell_of_row _ _ 0 _ _ _ ((unhide HBW).ce (B16, #[.int .u8 (r.k.toNat : Nat), .slice q1 n1 q3]) (List.mem_cons_of_mem _ (List.mem_cons_self ..))).1
          have x1 : wr.cell? ⟨B16, 1, none⟩ = some (.slice q1 n1 q3) := cell_of_row _ _ 1 _ _ _ ((unhide HBW).ce (B16, #[.int .u8 (r.k.toNat : Nat), .slice q1 n1 q3]) (List.mem_cons_of_mem _ (List.mem_cons_self ..))).1
          subst ha
          have i1 : (j : Int) < (n1 : Int) := by omega
          go_wp2_with fail
          refine ⟨⟨j + 1, by omega, by go_num, ?_⟩, by simp [intOf]; omega⟩
          have h := unhide HSET ((x + 1) % 256) (by omega)
          have e : (((x + 1) % 256 : Nat) : Int) = ((x : Int) + 1) % 256 := by omega
          rw [e] at h
          exact h
        · have ej : n1 = j := by omega
          subst ej
          have HK16 := hide (unhide HBW).kp
          clear HBW
          have x0 : wr.cell? ⟨B19, 0, none⟩ = some (.int .u8 (r.k.toNat : Nat)) := cell_of_row _ _ 0 _ _ _ ((unhide HK16).ce (B19, #[.int .u8 (r.k.toNat : Nat), .slice d1 n1 d3]) (List.mem_cons_self ..))
          have x1 : wr.cell? ⟨B19, 1, none⟩ = some (.slice d1 n1 d3) := cell_of_row _ _ 1 _ _ _ ((unhide HK16).ce (B19, #[.int .u8 (r.k.toNat : Nat), .slice d1 n1 d3]) (List.mem_cons_self ..))
          have y0 : wr.cell? ⟨B3, 0, none⟩ = some (.int .u8 (r.k.toNat : Nat)) := cell_of_row _ _ 0 _ _ _ ((unhide HK16).ce (B3, #[.int .u8 (r.k.toNat : Nat), .slice a1 n1 c1]) (List.mem_cons_of_mem _ (List.mem_cons_of_mem _ (List.mem_cons_of_mem _ (List.mem_cons_of_mem _ (List.mem_cons_self ..))))))
          have y1 : wr.cell? ⟨B3, 1, none⟩ = some (.slice a1 n1 c1) := cell_of_row _ _ 1 _ _ _ ((unhide HK16).ce (B3, #[.int .u8 (r.k.toNat : Nat), .slice a1 n1 c1]) (List.mem_cons_of_mem _ (List.mem_cons_of_mem _ (List.mem_cons_of_mem _ (List.mem_cons_of_mem _ (List.mem_cons_self ..))))))
          have v0 : wr.cell? ⟨B4, 0, none⟩ = some (.int .u8 (s.k.toNat : Nat)) := cell_of_row _ _ 0 _ _ _ ((unhide HK16).ce (B4, #[.int .u8 (s.k.toNat : Nat), .slice a2 n2 c2]) (List.mem_cons_of_mem _ (List.mem_cons_of_mem _ (List.mem_cons_of_mem _ (List.mem_cons_self ..)))))
          have v1 : wr.cell? ⟨B4, 1, none⟩ = some (.slice a2 n2 c2) := cell_of_row _ _ 1 _ _ _ ((unhide HK16).ce (B4, #[.int .u8 (s.k.toNat : Nat), .slice a2 n2 c2]) (List.mem_cons_of_mem _ (List.mem_cons_of_mem _ (List.mem_cons_of_mem _ (List.mem_cons_self ..)))))
          have HSR : Hid (sameRec r r = true) := (sameRec_iff r r).2 rfl
          have lx0 := Later.cell x0
          have lx1 := Later.cell x1
          have ly0 := Later.cell y0
          have ly1 := Later.cell y1
          have lv0 := Later.cell v0
          have lv1 := Later.cell v1
          clear x0 x1 y0 y1 v0 v1
          by_cases hs : putErr s = 0
          · have HPS : Hid (putOf s = s.put) := if_pos hs
            have HEQ : Hid (decide (r.put = s.put) = sameRec r s) := same_put (unhide HR) (putErr_zero.1 hs)
            rw [hs]
            clear hs
            go_upto_region 25 with fail
            have hne : Nonempty (Later wr) := ⟨⟨wr, Below.refl _ _⟩⟩
            refine wp_region_later (by kernel_rfl) ?_
            repeat (go_big_quiet_step ((rename_i x; first | (go_at_call_of 13 d1; refine (low_sameRec r r d1 a1 n1 d3 n1 c1 _ (Later.bytes ((unhide HK16).byt (.slice d1 n1 d3, r.d) (List.mem_cons_self ..)) x) (Later.bytes ((unhide HK16).byt (.slice a1 n1 c1, r.d) (List.mem_cons_of_mem _ (List.mem_cons_of_mem _ (List.mem_cons_of_mem _ (List.mem_cons_self ..))))) x)).mono ?_; rintro e w17 ⟨rfl, hb⟩; exact ⟨by rw [unhide HSR], x.then hb⟩) | (go_at_call_of 13 a2; refine (low_sameRec r s a1 a2 n1 c1 n2 c2 _ (Later.bytes ((unhide HK16).byt (.slice a1 n1 c1, r.d) (List.mem_cons_of_mem _ (List.mem_cons_of_mem _ (List.mem_cons_of_mem _ (List.mem_cons_self ..))))) x) (Later.bytes ((unhide HK16).byt (.slice a2 n2 c2, s.d) (List.mem_cons_of_mem _ (List.mem_cons_of_mem _ (List.mem_cons_of_mem _ (List.mem_cons_of_mem _ (List.mem_cons_self ..)))))) x)).mono ?_; rintro e w18 ⟨rfl, hb⟩; exact ⟨rfl, x.then hb⟩) | (go_at_call 12; refine (low_same (.slice xa NB xc) (.slice ya NC yc) r.put s.put _ (Later.bytes ((unhide HK16).byt (.slice xa NB xc, r.put) (List.mem_cons_of_mem _ (List.mem_cons_of_mem _ (List.mem_cons_self ..)))) x) (by have h := (Later.bytes ((unhide HK16).byt (.slice ya NC yc, putOf s) (List.mem_cons_of_mem _ (List.mem_cons_self ..))) x); rw [unhide HPS] at h; exact h)).mono ?_; rintro e w19 ⟨rfl, hw⟩; exact ⟨by rw [unhide HEQ], x.same hw⟩) | (go_at_call 8; refine (awake_any (unhide HC) _).mono ?_; rintro e w20 ⟨rfl, hb⟩; exact ⟨rfl, x.then hb⟩))))
            refine wpQuiet_nil ?_
            rintro _ ⟨x, rfl⟩
            have HFIN : Hid (Below w.heap.size w x.1) := (unhide HK16).bb.trans (x.2.mono (unhide HK16).bb.size)
            generalize x.1 = W20 at *
            go_wp2_with fail
            go_ret
            exact ⟨rfl, unhide HFIN⟩
          · have hs2 : putErr s = 30 ∨ putErr s = 31 := put_err hs
            clear hs
            rcases hs2 with hs | hs
            · rw [hs]
              clear hs
              go_upto_region 25 with fail
              have hne : Nonempty (Later wr) := ⟨⟨wr, Below.refl _ _⟩⟩
              refine wp_region_later (by kernel_rfl) ?_
              repeat (go_big_quiet_step ((rename_i x; first | (go_at_call_of 13 d1; refine (low_sameRec r r d1 a1 n1 d3 n1 c1 _ (Later.bytes ((unhide HK16).byt (.slice d1 n1 d3, r.d) (List.mem_cons_self ..)) x) (Later.bytes ((unhide HK16).byt (.slice a1 n1 c1, r.d) (List.mem_cons_of_mem _ (List.mem_cons_of_mem _ (List.mem_cons_of_mem _ (List.mem_cons_self ..))))) x)).mono ?_; rintro e w17 ⟨rfl, hb⟩; exact ⟨by rw [unhide HSR], x.then hb⟩) | (go_at_call 8; refine (awake_any (unhide HC) _).mono ?_; rintro e w20 ⟨rfl, hb⟩; exact ⟨rfl, x.then hb⟩))))
              refine wpQuiet_nil ?_
              rintro _ ⟨x, rfl⟩
              have HFIN : Hid (Below w.heap.size w x.1) := (unhide HK16).bb.trans (x.2.mono (unhide HK16).bb.size)
              generalize x.1 = W20 at *
              go_wp2_with fail
              go_ret
              exact ⟨rfl, unhide HFIN⟩
            · rw [hs]
              clear hs
              go_upto_region 25 with fail
              have hne : Nonempty (Later wr) := ⟨⟨wr, Below.refl _ _⟩⟩
              refine wp_region_later (by kernel_rfl) ?_
              repeat (go_big_quiet_step ((rename_i x; first | (go_at_call_of 13 d1; refine (low_sameRec r r d1 a1 n1 d3 n1 c1 _ (Later.bytes ((unhide HK16).byt (.slice d1 n1 d3, r.d) (List.mem_cons_self ..)) x) (Later.bytes ((unhide HK16).byt (.slice a1 n1 c1, r.d) (List.mem_cons_of_mem _ (List.mem_cons_of_mem _ (List.mem_cons_of_mem _ (List.mem_cons_self ..))))) x)).mono ?_; rintro e w17 ⟨rfl, hb⟩; exact ⟨by rw [unhide HSR], x.then hb⟩) | (go_at_call 8; refine (awake_any (unhide HC) _).mono ?_; rintro e w20 ⟨rfl, hb⟩; exact ⟨rfl, x.then hb⟩))))
              refine wpQuiet_nil ?_
              rintro _ ⟨x, rfl⟩
              have HFIN : Hid (Below w.heap.size w x.1) := (unhide HK16).bb.trans (x.2.mono (unhide HK16).bb.size)
              generalize x.1 = W20 at *
              go_wp2_with fail
              go_ret
              exact ⟨rfl, unhide HFIN⟩

theorem recBack_any (more : List UInt8) (h1 : Bytes w (.slice a1 n1 c1) r.d) (h2 : Bytes w (.slice a2 n2 c2) s.d) (h3 : Bytes w (.slice a3 n3 c3) more) : Calls Try.prog 4 #[.agg #[.int .u8 (r.k.toNat : Nat), .slice a1 n1 c1], .agg #[.int .u8 (s.k.toNat : Nat), .slice a2 n2 c2], .slice a3 n3 c3] w fun e w' => e = .returned (.bool true) ∧ Below w.heap.size w w' := by
  by_cases hl : 5000 < n1 ∨ 5000 < n2 ∨ 100 < n3
  · exact recBack_long hc r s a1 a2 a3 n1 c1 n2 c2 n3 c3 w hl
  · by_cases hr : r.right
    · exact recBack_main hc r s a1 a2 a3 n1 c1 n2 c2 n3 c3 w more h1 h2 h3 (by omega) (by omega) (by omega) hr
    · exact recBack_bad hc r s a1 a2 a3 n1 c1 n2 c2 n3 c3 w more h1 h2 h3 (by omega) (by omega) (by omega) hr
end
end Go.Proofs.Ytfaoailiamcchaa
