/- DiskFull: the walk of the statement's function. -/
import Derived.Test.YtbpjlkjokafdnaaEnv
import Derived.Deep.DeepCutAuto
namespace Go.Proofs.Ytbpjlkjokafdnaa
open Go.RowKit

/-- make([]byte, n): n noughts in new memory. -/
theorem made_bytes {w : World} {g n : Nat} {e : TypeId} (h : w.ownsRow 0 e 1 (.slice (some ⟨g, 0, none⟩) n n) n (madeCells #[Value.int .u8 0] n).toList) : Bytes w (.slice (some ⟨g, 0, none⟩) n n) (List.replicate n 0) := by
  have e1 : (madeCells #[Value.int .u8 0] n).toList = (List.replicate n (0 : UInt8)).map bv := by
    rw [List.map_replicate]
    exact toList_madeCells_one _ _
  rw [e1] at h
  have := bytes_of_owns (bs := List.replicate n 0) (v := .slice (some ⟨g, 0, none⟩) n n) (w := w) (e := e) (by simpa using h)
  exact this

theorem u16_half (X : Int) (h0 : 0 ≤ X) (h1 : X ≤ 65535) : wrap64 ((IntKind.u16.wrap (X.tdiv 2)).tmod 64) = X / 2 % 64 := by
  have e1 : X.tdiv 2 = X / 2 := Int.tdiv_eq_ediv_of_nonneg h0
  have e2 : IntKind.u16.wrap (X / 2) = X / 2 := by
    simp only [IntKind.wrap, IntKind.bits, IntKind.signed]
    simp
    omega
  have e3 : (X / 2).tmod 64 = X / 2 % 64 := Int.tmod_eq_emod_of_nonneg (by omega)
  rw [e1, e2, e3]
  unfold wrap64
  omega

/-- What the loop keeps: a disk of c bytes without a fuse, and beside it the two lengths at block q. -/
def FullRel (w : World) (p q : Nat) (c : Int) (W : World) : Prop := ∃ D v A, DiskIs W p D v A ∧ ¬ D q ∧ (∃ cs, W.heap[q]? = some (.cells cs 53 (0, 0))) ∧ (∀ k, D k → w.heap.size ≤ k) ∧ w.heap.size ≤ q ∧ Below w.heap.size w W ∧ A.cap = c ∧ A.calls = -1 ∧ A.dead = false ∧
  W.cell? ⟨q, 0, none⟩ = some (.int .i64 (A.x 0).length) ∧ W.cell? ⟨q, 1, none⟩ = some (.int .i64 (A.x 1).length)

theorem Step.ofBelow {D : Nat → Prop} {w w' : World} (h : Below w.heap.size w w') : Step D D w w' := ⟨h.os, h.tape, h.output, h.size, fun k hk _ => h.block k hk, fun _ h => .inl h⟩
theorem Below.ofGrown {w w' : World} (h : w.grownBy w' none) : Below w.heap.size w w' := ⟨h.os, h.tape, h.output, h.size, fun k hk => h.block k hk (by simp)⟩

theorem tick_calls {A : AD} (h : A.calls = -1) : A.tick.calls = A.calls := by rw [tick_neg (by omega)]

theorem FullRel.put {w W : World} {p q : Nat} {c : Int} {D : Nat → Prop} {v : Nat → Value} {A : AD} (hD : DiskIs W p D v A) (nq : ¬ D q) (hq : ∃ cs, W.heap[q]? = some (.cells cs 53 (0, 0))) (hDB : ∀ k, D k → w.heap.size ≤ k) (hqB : w.heap.size ≤ q) (hB : Below w.heap.size w W)
    (hcap : A.cap = c) (hcalls : A.calls = -1) (hdead : A.dead = false) (i : Nat) (hi : i < 2) (n : Int) (hn : ((A.x i).length : Int) = n) (gi : ∃ u, W.cell? ⟨q, i, none⟩ = some u) (go : W.cell? ⟨q, 1 - i, none⟩ = some (.int .i64 (A.x (1 - i)).length)) :
    FullRel w p q c (W.setCell ⟨q, i, none⟩ (.int .i64 n)) := by
  obtain ⟨u, gi⟩ := gi
  refine ⟨D, v, A, hD.setOther (a := ⟨q, i, none⟩) nq _, nq, blk_set hq _ _, hDB, hqB, hB.setCell (p := ⟨q, i, none⟩) hqB _, hcap, hcalls, hdead, ?_, ?_⟩
  · rcases (show i = 0 ∨ i = 1 by omega) with rfl | rfl
    · rw [World.cell?_setCell_same _ _ _ gi, hn]
    · rw [cell_set_ne _ _ _ _ _ (by omega)]; exact go
  · rcases (show i = 0 ∨ i = 1 by omega) with rfl | rfl
    · rw [cell_set_ne _ _ _ _ _ (by omega)]; exact go
    · rw [World.cell?_setCell_same _ _ _ gi, hn]

/-- What a call of the disk leaves of the relation: a new disk A', and the two lengths as they were. -/
theorem FullRel.after {w W W' : World} {p q : Nat} {D : Nat → Prop} {A' : AD} {l0 l1 : Int} (nq : ¬ D q) (hq : ∃ cs, W.heap[q]? = some (.cells cs 53 (0, 0))) (hDB : ∀ k, D k → w.heap.size ≤ k) (hB : Below w.heap.size w W) (g0 : W.cell? ⟨q, 0, none⟩ = some (.int .i64 l0)) (g1 : W.cell? ⟨q, 1, none⟩ = some (.int .i64 l1))
    (hN : Now D p A' W W') : ∃ D' v', DiskIs W' p D' v' A' ∧ ¬ D' q ∧ (∃ cs, W'.heap[q]? = some (.cells cs 53 (0, 0))) ∧ (∀ k, D' k → w.heap.size ≤ k) ∧ Below w.heap.size w W' ∧ W'.cell? ⟨q, 0, none⟩ = some (.int .i64 l0) ∧ W'.cell? ⟨q, 1, none⟩ = some (.int .i64 l1) := by
  obtain ⟨D', v', hD', hS⟩ := hN
  have hql := World.block_lt_of_cell? W ⟨q, 0, none⟩ g0
  refine ⟨D', v', hD', hS.notOwn hql nq, ?_, fun k hk => ?_, hB.trans (hS.below hB.size hDB), hS.cell g0 nq, hS.cell g1 nq⟩
  · rw [hS.block q hql nq]; exact hq
  · rcases hS.own k hk with h | h
    · exact hDB k h
    · exact Nat.le_trans hB.size h

set_option maxRecDepth 100000 in
set_option maxHeartbeats 4000000 in
theorem diskFull_any (cp : Int) (hc0 : 0 ≤ cp) (hc1 : cp ≤ 65535) (a : Option Addr) (n0 c0 : Nat) (hnc : n0 ≤ c0) (z : Nat → Int) (w : World) (hz : ∀ i, 0 ≤ z i ∧ z i ≤ 65535)
    (hl : n0 = 0 ∨ ∃ b o, a = some ⟨b, o, none⟩ ∧ ∀ i, i < n0 → w.cell? ⟨b, o + i, none⟩ = some (.int .u16 (z i))) :
    Calls Try.prog 5 #[.int .u16 cp, .slice a n0 c0] w fun e w' => e = .returned (.bool true) ∧ Below w.heap.size w w' := by
  obtain ⟨p, hp⟩ : ∃ p, p = w.heap.size := ⟨_, rfl⟩
  have HP := hide hp
  have HL := hide hl
  have HZ := hide hz
  clear hp hl hz
  have EM := hide (show min (n0 : Int) 80 = ((min n0 80 : Nat) : Int) by omega)
  have EM2 := hide (show max ((min n0 80 : Nat) : Int) 0 = ((min n0 80 : Nat) : Int) by omega)
  have hm0 : min n0 80 ≤ n0 := by omega
  have hm8 : min n0 80 ≤ 80 := by omega
  go_enter Try.func5, Try.ntmps5
  go_wp2_with fail
  obtain ⟨c, hc⟩ : ∃ c : Int, cp % 301 = c := ⟨_, rfl⟩
  have hcl : 0 ≤ c ∧ c ≤ 300 := by omega
  obtain ⟨hcl0, hcl1⟩ := hcl
  rw [hc]
  clear hc hc0 hc1
  refine (new_ok c (by omega) (by omega) _).mono ?_
  rintro e w1 ⟨rfl, hD1, hz1, hb1⟩
  rw [← unhide HP] at hD1 ⊢
  obtain ⟨q, hq⟩ : ∃ q, q = w1.heap.size := ⟨_, rfl⟩
  have hR0 : FullRel w p q c (w1.alloc (.cells #[.int .i64 0, .int .i64 0] 53)) := by
    have h2 : (w1.alloc (.cells #[.int .i64 0, .int .i64 0] 53)).heap[q]? = some (.cells #[.int .i64 0, .int .i64 0] 53 (0, 0)) := by rw [hq]; exact heap_alloc_new w1 _
    refine ⟨_, _, _, hD1.alloc _, fun e => ?_, ⟨_, h2⟩, fun k hk => ?_, ?_, hb1.alloc (by omega) _, rfl, rfl, rfl, cell_of_row _ _ 0 _ _ _ h2, cell_of_row _ _ 1 _ _ _ h2⟩
    · have e' : q = p := e; have := unhide HP; omega
    · have e' : k = p := hk; have := unhide HP; omega
    · omega
  have HR0 := hide hR0
  have HQ := hide hq
  clear hR0 hD1 hz1 hb1 hq
  go_wp2_with (refine wpList_min2 rfl (.tmp 27) (.const (.int .i64 80)) 3 3 rfl _ _ _ _ rfl rfl ?_)
  rw [unhide EM, Int.toNat_natCast, unhide EM2, ← unhide HQ]
  clear EM EM2
  generalize min n0 80 = m at *
  go_loopw [31] (fun i W => ∃ k : Nat, k ≤ m ∧ i = .int .i64 k ∧ FullRel w p q c W) (fun i _ => m - (intOf i).toNat)
  case atStart => exact ⟨0, Nat.zero_le _, rfl, unhide HR0⟩
  case round =>
    obtain ⟨k, hk, rfl, hR⟩ := hrel
    have HR := hide hR
    clear hR HR0
    by_cases hlt : k < m
    · obtain ⟨hX0, hX1⟩ := unhide HZ k
      obtain ⟨b, o, ha, hcl⟩ : ∃ b o, a = some ⟨b, o, none⟩ ∧ ∀ i, i < n0 → w.cell? ⟨b, o + i, none⟩ = some (.int .u16 (z i)) := by
        rcases unhide HL with h | h
        · omega
        · exact h
      have hc1 := hcl k (by omega)
      have hc2 : wr.cell? ⟨b, o + k, none⟩ = some (.int .u16 (z k)) := by
        obtain ⟨_, _, _, _, _, _, _, _, hB, _⟩ := unhide HR
        rw [hB.cell (p := ⟨b, o + k, none⟩) (World.block_lt_of_cell? w _ hc1)]; exact hc1
      clear hcl hc1
      subst ha
      generalize z k = X at *
      obtain ⟨i, hi, hi2⟩ : ∃ i : Nat, X % 2 = i ∧ i < 2 := ⟨(X % 2).toNat, by omega, by omega⟩
      obtain ⟨n, hn, hn6⟩ : ∃ n : Nat, X / 2 % 64 = n ∧ n < 64 := ⟨(X / 2 % 64).toNat, by omega, by omega⟩
      have HI := hide hi
      have HNN := hide ((u16_half X hX0 hX1).trans hn)
      clear hi hn
      have hk1 : (k : Int) < (m : Int) := by omega
      go_upto_if 43 with fail
      rw [unhide HI, unhide HNN]
      go_cut [] (fun wx => FullRel w p q c wx)
      case first =>
        obtain ⟨D, v, A, hD, nq, hqb, hDB, hqB, hB, hcap, hcalls, hdead, g0, g1⟩ := unhide HR
        have hi0 : (0 : Int) ≤ (i : Int) := by omega
        have hi1 : (i : Int) < 2 := by omega
        have HD := hide hD
        have HA := hide (fun A' W' (hN : Now D p A' wr W') => FullRel.after nq hqb hDB hB g0 g1 hN)
        have HC := hide hcalls
        have HE := hide hdead
        have HK := hide hcap
        have HQB := hide hqB
        clear hD nq hqb hDB hqB hB g0 g1 hcalls hdead hcap hc2 HR
        by_cases hop : 16384 ≤ X
        · by_cases hfit : n ≤ (A.x i).length
          · go_wp2_with fail
            refine (truncate_ok (unhide HD) (unhide HE) (by rw [unhide HC]; omega) i hi2 n hfit).mono ?_
            rintro e W' ⟨rfl, hN⟩
            have HX := hide (unhide HA _ _ hN)
            clear hN
            have gi : W'.cell? ⟨q, i, none⟩ = some (.int .i64 (A.x i).length) := by
              obtain ⟨_, _, _, _, _, _, _, g0, g1⟩ := unhide HX
              rcases (show i = 0 ∨ i = 1 by omega) with rfl | rfl
              · exact g0
              · exact g1
            have gf : W'.frozen? ⟨q, i, none⟩ = false := by obtain ⟨_, _, _, _, ⟨cs, h⟩, _⟩ := unhide HX; exact frozen_of_row _ _ _ _ _ h
            have hfit' : (n : Int) ≤ ((A.x i).length : Int) := by omega
            go_wp2_with fail
            go_meet
            case rel =>
              obtain ⟨D', v', hD', nq', hqb', hDB', hB', g0, g1⟩ := unhide HX
              refine FullRel.put hD' nq' hqb' hDB' (unhide HQB) hB' (unhide HK) ((tick_calls (unhide HC)).trans (unhide HC)) (unhide HE) i hi2 n ?_ ⟨_, gi⟩ ?_
              · show (((upd A.x i ((A.x i).take n)) i).length : Int) = n
                rw [upd_same, List.length_take]; omega
              · show W'.cell? ⟨q, 1 - i, none⟩ = some (.int .i64 ((upd A.x i ((A.x i).take n)) (1 - i)).length)
                rw [upd_other _ _ (by omega)]
                rcases (show i = 0 ∨ i = 1 by omega) with rfl | rfl
                · exact g1
                · exact g0
          · go_wp2_with fail
            refine (truncate_arg (unhide HD) (unhide HE) i n (.inr ⟨i, hi2, rfl, .inr (by omega)⟩)).mono ?_
            rintro e W' ⟨rfl, hN⟩
            have HX := hide (unhide HA _ _ hN)
            clear hN
            have gi : W'.cell? ⟨q, i, none⟩ = some (.int .i64 (A.x i).length) := by
              obtain ⟨_, _, _, _, _, _, _, g0, g1⟩ := unhide HX
              rcases (show i = 0 ∨ i = 1 by omega) with rfl | rfl
              · exact g0
              · exact g1
            have hfit' : ¬ (n : Int) ≤ ((A.x i).length : Int) := by omega
            go_wp2_with fail
            go_meet
            case rel =>
              obtain ⟨D', v', hD', nq', hqb', hDB', hB', g0, g1⟩ := unhide HX
              exact ⟨D', v', A, hD', nq', hqb', hDB', unhide HQB, hB', unhide HK, unhide HC, unhide HE, g0, g1⟩
        · obtain ⟨ti, hti, hz0, hz1, hz2⟩ := infoByte
          go_wp2_with (at_make; refine wpList_make_full _ rfl _ _ 28 rfl 0 5 ti (.int .u8 0) 1 Try.underlying28 hti hz0 hz1 _ _ _ _ n rfl rfl rfl rfl (by rw [hz2]; omega) (by unfold maxLen; omega) (Nat.zero_le _) ?_)
          intro W1 hown hgrow
          have hbe := Below.ofGrown hgrow
          have hby := made_bytes hown
          have HD1 := hide ((unhide HD).kept hbe.size fun k hk => hbe.block k ((unhide HD).lt k hk))
          have HBY := hide hby
          have HS1 : Hid (Step D D wr W1) := Step.ofBelow hbe
          have HNO : Hid (List.replicate n (0 : UInt8) ≠ [] → ∀ k, (Value.slice (some ⟨wr.heap.size, 0, none⟩) n n).ownBlock = some k → ¬ D k) := fun _ k hk => by
            simp [Value.ownBlock] at hk
            exact (unhide HD).fresh k (by omega)
          have g0' : W1.cell? ⟨q, 0, none⟩ = some (.int .i64 (A.x 0).length) := by
            obtain ⟨_, _, _, _, _, _, _, g0, _⟩ := unhide HA A W1 ⟨D, v, unhide HD1, unhide HS1⟩; exact g0
          clear hown hgrow hbe hby g0' hti hz0 hz1 hz2
          by_cases hfit : ((A.x 0).length : Int) + (A.x 1).length + n ≤ c
          · go_wp2_with fail
            refine (append_ok (unhide HD1) (unhide HE) (by rw [unhide HC]; omega) i hi2 _ (List.replicate n 0) (unhide HBY) (unhide HNO) (by rw [List.length_replicate, unhide HK]; exact hfit)).mono ?_
            rintro e W' ⟨rfl, hN⟩
            have HX := hide (unhide HA _ _ (Now.trans (unhide HS1) hN))
            clear hN
            have g0 : W'.cell? ⟨q, 0, none⟩ = some (.int .i64 (A.x 0).length) := by obtain ⟨_, _, _, _, _, _, _, g0, g1⟩ := unhide HX; exact g0
            have g1 : W'.cell? ⟨q, 1, none⟩ = some (.int .i64 (A.x 1).length) := by obtain ⟨_, _, _, _, _, _, _, g0, g1⟩ := unhide HX; exact g1
            have gi : W'.cell? ⟨q, i, none⟩ = some (.int .i64 (A.x i).length) := by
              rcases (show i = 0 ∨ i = 1 by omega) with rfl | rfl
              · exact g0
              · exact g1
            have gf : W'.frozen? ⟨q, i, none⟩ = false := by obtain ⟨_, _, _, _, ⟨cs, h⟩, _⟩ := unhide HX; exact frozen_of_row _ _ _ _ _ h
            have hxi : ((A.x i).length : Int) ≤ 300 := by rcases (show i = 0 ∨ i = 1 by omega) with rfl | rfl <;> omega
            go_wp2_with fail
            go_meet
            case rel =>
              obtain ⟨D', v', hD', nq', hqb', hDB', hB', g0, g1⟩ := unhide HX
              refine FullRel.put hD' nq' hqb' hDB' (unhide HQB) hB' (unhide HK) ((tick_calls (unhide HC)).trans (unhide HC)) (unhide HE) i hi2 _ ?_ ⟨_, gi⟩ ?_
              · show (((upd A.x i (A.x i ++ List.replicate n 0)) i).length : Int) = _
                rw [upd_same, List.length_append, List.length_replicate]; omega
              · show W'.cell? ⟨q, 1 - i, none⟩ = some (.int .i64 ((upd A.x i (A.x i ++ List.replicate n 0)) (1 - i)).length)
                rw [upd_other _ _ (by omega)]
                rcases (show i = 0 ∨ i = 1 by omega) with rfl | rfl
                · exact g1
                · exact g0
          · go_wp2_with fail
            refine (append_full (unhide HD1) (unhide HE) i hi2 _ (List.replicate n 0) (unhide HBY) (by rw [List.length_replicate, unhide HK]; omega)).mono ?_
            rintro e W' ⟨rfl, hN⟩
            have HX := hide (unhide HA _ _ (Now.trans (unhide HS1) hN))
            clear hN
            have g0 : W'.cell? ⟨q, 0, none⟩ = some (.int .i64 (A.x 0).length) := by obtain ⟨_, _, _, _, _, _, _, g0, g1⟩ := unhide HX; exact g0
            have g1 : W'.cell? ⟨q, 1, none⟩ = some (.int .i64 (A.x 1).length) := by obtain ⟨_, _, _, _, _, _, _, g0, g1⟩ := unhide HX; exact g1
            have h0 := (unhide HD).len 0 (by omega)
            have h1 := (unhide HD).len 1 (by omega)
            have h0' : ((A.x 0).length : Int) ≤ 1048576 := by omega
            have h1' : ((A.x 1).length : Int) ≤ 1048576 := by omega
            go_wp2_with fail
            go_meet
            case rel =>
              obtain ⟨D', v', hD', nq', hqb', hDB', hB', g0, g1⟩ := unhide HX
              exact ⟨D', v', A, hD', nq', hqb', hDB', unhide HQB, hB', unhide HK, unhide HC, unhide HE, g0, g1⟩
      case rest =>
        have HR2 := hide hcut
        obtain ⟨D, v, A, hD, nq, hqb, hDB, hqB, hB, hcap, hcalls, hdead, g0, g1⟩ := hcut
        have HN := hide ((Now.start hD).drewN 1)
        have HE := hide hdead
        have HK := hide hcap
        have HNQ := hide nq
        have hl0 := hD.len 0 (by omega)
        have hl1 := hD.len 1 (by omega)
        have hq0 : ((A.x 0).length : Int) ≤ 1048576 := by omega
        have hq1 : ((A.x 1).length : Int) ≤ 1048576 := by omega
        have hw1 : IntKind.i64.wrap (c - ((A.x 0).length : Int)) = c - ((A.x 0).length : Int) := by rw [IntKind.wrap_i64]; omega
        have hw2 : IntKind.i64.wrap (c - ((A.x 0).length : Int) - ((A.x 1).length : Int)) = c - ((A.x 0).length : Int) - ((A.x 1).length : Int) := by rw [IntKind.wrap_i64]; omega
        have HG0 := hide g0
        have HG1 := hide g1
        have HREL := hide (fun W' (hN : Now D p A wc W') => FullRel.after nq hqb hDB hB g0 g1 hN)
        have HQB := hide hqB
        have HC := hide hcalls
        clear hD nq hqb hDB hqB hB hcap hcalls hdead HR hc2 hl0 hl1
        go_wp2_with fail
        go_region_held3 (fun w' => w'.cell? ⟨q, 0, none⟩ = some (.int .i64 (A.x 0).length) ∧ w'.cell? ⟨q, 1, none⟩ = some (.int .i64 (A.x 1).length)) (go_keep)
          (first
            | (go_at_call_of 16 (Value.int IntKind.i64 0); refine (nRead0 (unhide HN) (unhide HE)).mono ?_; rintro e w8 ⟨r, rfl, hF, hN⟩; obtain ⟨ra, rc, rfl, _⟩ := hF.1.form; clear HN hF; have HN := hide hN; have y0 := hN.cell (unhide HG0) (unhide HNQ); have y1 := hN.cell (unhide HG1) (unhide HNQ); clear hN)
            | (go_at_call_of 16 (Value.int IntKind.i64 1); refine (nRead1 (unhide HN) (unhide HE)).mono ?_; rintro e w9 ⟨r, rfl, hF, hN⟩; obtain ⟨ra, rc, rfl, _⟩ := hF.1.form; clear HN hF; have HN := hide hN; have y2 := hN.cell (unhide HG0) (unhide HNQ); have y3 := hN.cell (unhide HG1) (unhide HNQ); clear hN)
            | (go_at_call 13; refine (nFree (unhide HN) (unhide HE)).mono ?_; rintro e w' ⟨rfl, rfl⟩; rw [unhide HK]))
        have hfin : ∀ W, Now D p A wc W → FullRel w p q c W := fun W hN => by
          obtain ⟨D', v', hD', nq', hqb', hDB', hB', g0, g1⟩ := unhide HREL _ hN
          exact ⟨D', v', A, hD', nq', hqb', hDB', unhide HQB, hB', unhide HK, unhide HC, unhide HE, g0, g1⟩
        have HFIN := hide (hfin _ (unhide HN))
        clear hfin
        go_wp2_with fail
        exact ⟨⟨k + 1, by omega, by go_num, unhide HFIN⟩, by simp [intOf]; omega⟩
    · go_wp2_with fail
      refine (awake_any _).mono ?_
      rintro e W' ⟨rfl, hA⟩
      go_wp2
      go_ret
      obtain ⟨_, _, _, _, _, _, _, _, hB, _⟩ := unhide HR
      exact ⟨rfl, hB.trans (hA.mono hB.size)⟩
end Go.Proofs.Ytbpjlkjokafdnaa
