/- What the small functions of package wire answer: folded, unfolded, isLast, groups. No statement of the seat is proved here. -/
import Derived.Test.YtifnjdplbdpelaaGenStep
import Derived.Test.YtifnjdplbdpelaaWireMath
import Derived.RangeFuncNested
import Derived.RangeFuncBound
import Derived.RangeFuncCalls
import Derived.RangeFuncLeaves
import Derived.Shelf.Abstract
import Derived.Shelf.RegionOpen
import Derived.WalkKit
import Derived.OwnWalkIn
import Derived.TacticsInMore
import Derived.LoopNIn
import Derived.LoopIn
namespace Go.Proofs.Ytifnjdplbdpelaa
open Go.RowKit Go.Shelf
attribute [local go_sem] Oper.semAt_some

theorem folded_any (n : Int) (hn : InR n) (w : World) : Calls Try.prog 28 #[.int .i64 n] w fun e w' => e = .returned (.int .u64 (zz n : Nat)) ∧ w' = w := by
  obtain ⟨h1, h2⟩ := hn
  by_cases h : n < 0
  · have HZ : Hid ((zz n : Int) = -2 * n - 1) := by show _ = _; unfold zz; rw [if_pos h]; omega
    go_enter Try.func28, Try.ntmps28
    go_wp2
    go_ret
    refine ⟨ret_int ?_, rfl⟩
    rw [unhide HZ]
    simp only [IntKind.wrap_u64]
    omega
  · have HZ : Hid ((zz n : Int) = 2 * n) := by show _ = _; unfold zz; rw [if_neg h]; omega
    go_enter Try.func28, Try.ntmps28
    go_wp2
    go_ret
    refine ⟨ret_int ?_, rfl⟩
    rw [unhide HZ]

theorem unfolded_any (u : Nat) (hu : u < 18446744073709551616) (w : World) : Calls Try.prog 21 #[.int .u64 (u : Nat)] w fun e w' => e = .returned (.int .i64 (unz u)) ∧ w' = w := by
  have HU := hide hu
  by_cases h : u % 2 = 1
  · have h' : (u : Int) % 2 = 1 := by omega
    have HZ : Hid (unz u = -((u / 2 : Nat) : Int) - 1) := by show _ = _; unfold unz; rw [if_pos h]
    go_enter Try.func21, Try.ntmps21
    go_wp2
    go_ret
    refine ⟨ret_int ?_, rfl⟩
    rw [unhide HZ]
    omega
  · have h' : ¬ (u : Int) % 2 = 1 := by omega
    have HZ : Hid (unz u = ((u / 2 : Nat) : Int)) := by show _ = _; unfold unz; rw [if_neg h]
    go_enter Try.func21, Try.ntmps21
    go_wp2
    go_ret
    refine ⟨ret_int ?_, rfl⟩
    rw [unhide HZ]
    omega

theorem isLast_any (x : Nat) (w : World) : Calls Try.prog 20 #[.int .u8 (x : Nat)] w fun e w' => e = .returned (.bool (decide (x < 128))) ∧ w' = w := by
  go_enter Try.func20, Try.ntmps20
  go_wp2
  go_ret
  exact ⟨ret_bool (by rw [Bool.eq_iff_iff]; simp; omega), rfl⟩

theorem groups_any (u : Nat) (w : World) :
    Calls Try.prog 27 #[.int .u64 (u : Nat)] w fun e w' => e = .returned (.func (.func 29) #[] #[.pointer (some ⟨w.heap.size, 0, none⟩)]) ∧ w' = w.alloc (.cells #[.int .u64 (u : Nat)] 49) := by
  go_enter Try.func27, Try.ntmps27
  go_wp2
  go_ret
  exact ⟨rfl, rfl⟩

theorem or128 (v : Nat) : bits .or .u8 128 (((v : Nat) : Int) % 256) = (((UInt8.ofNat (128 + v % 128)).toNat : Nat) : Int) := by
  have h : ∀ x : Fin 256, (128 ||| x.val) = 128 + x.val % 128 := by decide +kernel
  have h2 := u8_or_nat 128 (v % 256) (by omega) (by omega)
  have h3 := h ⟨v % 256, by omega⟩
  simp only at h3
  rw [h3] at h2
  rw [u8_toNat (by omega), show ((v : Nat) : Int) % 256 = ((v % 256 : Nat) : Int) by omega]
  refine Eq.trans h2 ?_
  omega

set_option maxRecDepth 100000 in
set_option maxHeartbeats 2000000 in
/-- The closure that tells the groups. -/
theorem groups1_in (n : Nat) (hn : 1 ≤ n) (l Bu u : Nat) (hu : u < 18446744073709551616) (J Jx : List UInt8 → World → Prop)
    (hY : ∀ pre x W, J pre W → pre.length < (grp u).length → YieldAt Fence.wide (n - 1) Try.prog l #[bv x] W fun e W' =>
      (e = .returned (.bool true) ∧ J (pre ++ [x]) W' ∧ True) ∨ (e = .returned (.bool false) ∧ Jx (pre ++ [x]) W'))
    (W : World) (hf : W.cell? ⟨Bu, 0, none⟩ = some (.int .u64 ((u : Nat) : Int))) (h0 : J [] W) :
    CallsIn Fence.wide n Try.prog 29 #[.func (.yield l) #[] #[], .pointer (some ⟨Bu, 0, none⟩)] W fun e W' => (∃ v, e = .returned v) ∧
      ((∃ ys, ys = grp u ∧ J ys W') ∨ (∃ pre, True ∧ Jx pre W')) := by
  have HY := hide hY
  clear hY
  refine callsIn_of_wp Try.func29 rfl trivial ?_ rfl
  simp only [Try.ntmps29, List.size_toArray, List.length_cons, List.length_nil, Nat.reduceAdd, Nat.reduceSub, Array.replicate_succ, Array.replicate_zero, List.push_toArray, List.append_toArray, List.nil_append, List.cons_append]
  gi_wp2
  gi_loopw [3] (fun r wr => ∃ (v : Nat) (pre : List UInt8), r = .int .u64 ((v : Nat) : Int) ∧ v ≤ u ∧ pre ++ grp v = grp u ∧ J pre wr)
    (fun r _ => (intOf r).toNat)
  case atStart => exact ⟨u, [], rfl, Nat.le_refl _, rfl, h0⟩
  case round =>
    obtain ⟨v, pre, rfl, hv, he, hJ⟩ := hrel
    have HE := hide he
    have HJ := hide hJ
    clear he hJ
    by_cases hlt : 128 ≤ v
    · have hge : ((v : Nat) : Int) ≥ 128 := by omega
      have HX := hide (or128 v)
      have HL : Hid (pre.length < (grp u).length) := by
        show _ < _
        have h1 := congrArg List.length (unhide HE)
        have := grp_pos v
        rw [List.length_append] at h1
        omega
      have HN : Hid ((pre ++ [UInt8.ofNat (128 + v % 128)]) ++ grp (v / 128) = grp u) := by
        show _ = _
        rw [← unhide HE, grp_high hlt, List.append_assoc]; rfl
      generalize UInt8.ofNat (128 + v % 128) = x at *
      obtain ⟨fn, tmps, assign, body, hy, hR⟩ := unhide HY pre x wr (unhide HJ) (unhide HL)
      have hx := unhide HX
      have hy : (Instr.yield l #[.int .u8 ((x.toNat : Nat) : Int)]).run Try.prog wr = .ok (.round l fn tmps assign body) wr := hy
      gi_wp2
      refine hR.mono ?_
      clear hx hy hR
      rintro e W3 (⟨rfl, hJ3, _⟩ | ⟨rfl, hJx3⟩)
      · gi_wp2
        go_roundw
        case rel => exact ⟨v / 128, _, by go_num, by omega, unhide HN, hJ3⟩
        case measure => simp [intOf]; omega
      · gi_wp2
        refine bodyPost_ret (results_none rfl _ _ _) rfl ?_
        exact ⟨⟨_, rfl⟩, .inr ⟨_, trivial, hJx3⟩⟩
    · have hge : ¬ ((v : Nat) : Int) ≥ 128 := by omega
      have HX0 : Hid (((v : Nat) : Int) = (((UInt8.ofNat v).toNat : Nat) : Int)) := by show _ = _; rw [u8_toNat (by omega)]
      have HL : Hid (pre.length < (grp u).length) := by
        show _ < _
        have h1 := congrArg List.length (unhide HE)
        have := grp_pos v
        rw [List.length_append] at h1
        omega
      have HN : Hid (pre ++ [UInt8.ofNat v] = grp u) := by
        show _ = _
        rw [← unhide HE, grp_low (by omega)]
      generalize UInt8.ofNat v = x at *
      obtain ⟨fn, tmps, assign, body, hy, hR⟩ := unhide HY pre x wr (unhide HJ) (unhide HL)
      have hy : (Instr.yield l #[.int .u8 ((v : Nat) : Int)]).run Try.prog wr = .ok (.round l fn tmps assign body) wr := by rw [unhide HX0]; exact hy
      gi_wp2
      refine hR.mono ?_
      clear hy hR
      rintro e W3 (⟨rfl, hJ3, _⟩ | ⟨rfl, hJx3⟩)
      · gi_wp2
        go_end0
        exact ⟨⟨_, rfl⟩, .inl ⟨_, unhide HN, hJ3⟩⟩
      · gi_wp2
        go_end0
        exact ⟨⟨_, rfl⟩, .inr ⟨_, trivial, hJx3⟩⟩

/-- The iterator's contract. -/
theorem groups_stops (n : Nat) (hn : 1 ≤ n) (Bu u : Nat) (hu : u < 18446744073709551616) (w : World) (hf : w.cell? ⟨Bu, 0, none⟩ = some (.int .u64 ((u : Nat) : Int))) :
    SeqStopsK Fence.wide n Try.prog 29 #[.pointer (some ⟨Bu, 0, none⟩)] (fun x : UInt8 => #[bv x]) (fun _ _ => True) (fun ys => ys = grp u) (fun _ => True) (grp u).length w := fun l J Jx W hW _ _ hY h0 =>
  groups1_in n hn l Bu u hu J Jx hY W ((hW.cell (p := ⟨Bu, 0, none⟩) (World.block_lt_of_cell? w _ hf)).trans hf) h0

theorem wboxNew (W : World) (v : Value) (t : TypeId) : (W.alloc (.cells #[v] t)).cell? ⟨W.heap.size, 0, none⟩ = some v ∧ (W.alloc (.cells #[v] t)).frozen? ⟨W.heap.size, 0, none⟩ = false := ⟨by simp, by simp⟩
theorem wboxKept {W : World} {a : Addr} {v : Value} (o : Obj) (h : W.cell? a = some v) : (W.alloc o).cell? a = some v := cell_kept h (World.grownBy_alloc W o none) (fun r e => by cases e)
theorem wboxFrozen {W : World} {a : Addr} {v : Value} (o : Obj) (h : W.cell? a = some v) (hf : W.frozen? a = false) : (W.alloc o).frozen? a = false := (frozen_kept h (World.grownBy_alloc W o none) (fun r e => by cases e)).trans hf

set_option maxRecDepth 100000 in
set_option maxHeartbeats 2000000 in
theorem size_any (n : Int) (hn : InR n) (w : World) : Calls Try.prog 18 #[.int .i64 n] w fun e w' => e = .returned (.int .i64 ((numB n).length : Nat)) ∧ Below w.heap.size w w' := by
  obtain ⟨w2, hw2⟩ : ∃ w2, w2 = (w.alloc (.cells #[.int .i64 0] 3)).alloc (.cells #[.int .u64 ((zz n : Nat) : Int)] 49) := ⟨_, rfl⟩
  have HB0 : Hid (Below w.heap.size w w2) := by rw [hw2]; exact ((Below.refl _ w).alloc (Nat.le_refl _) _).alloc (by simp) _
  have HSZ : Hid (w2.heap.size = w.heap.size + 2) := by rw [hw2]; show _ = _; simp
  have c0 : w2.cell? ⟨w.heap.size, 0, none⟩ = some (.int .i64 0) ∧ w2.frozen? ⟨w.heap.size, 0, none⟩ = false := by
    have c := wboxNew w (.int .i64 0) 3
    rw [hw2]
    exact ⟨wboxKept _ c.1, wboxFrozen _ c.1 c.2⟩
  have c1 : w2.cell? ⟨w.heap.size + 1, 0, none⟩ = some (.int .u64 ((zz n : Nat) : Int)) := by
    have c := wboxNew (w.alloc (.cells #[.int .i64 0] 3)) (.int .u64 ((zz n : Nat) : Int)) 49
    rw [World.size_alloc] at c
    rw [hw2]
    exact c.1
  have C0 := hide c0
  have C1 := hide c1
  have HW2 := hide hw2
  have HI := hide hn
  have HT := hide (numB_ten hn)
  clear c0 c1 hw2 hn
  refine (callsIn_wide (n := 3)).1 ?_
  refine callsIn_of_wp_marks Try.func18 rfl trivial ?_ rfl
  simp only [Try.ntmps18, List.size_toArray, List.length_cons, List.length_nil, Nat.reduceAdd, Nat.reduceSub, Array.replicate_succ, Array.replicate_zero, List.push_toArray, List.append_toArray, List.nil_append, List.cons_append]
  gi_wp2
  refine ⟨trivial, (callsIn_wide.2 (folded_any n (unhide HI) _)).mono ?_⟩
  rintro e w' ⟨rfl, rfl⟩
  gi_wp2
  refine ⟨trivial, (callsIn_wide.2 (groups_any (zz n) _)).mono ?_⟩
  rintro e w' ⟨rfl, rfl⟩
  rw [← unhide HW2]
  simp only [World.size_alloc]
  gi_wp2
  have hsz := unhide HSZ
  refine wpIn_rangeFunc_ownF rfl (by omega) (gf := 29) (lb := #[.pointer (some ⟨w.heap.size + 1, 0, none⟩)]) rfl trivial (enters_of Try.func29 (by kernel_rfl) rfl)
    (groups_stops (3 - 1) (by omega) (w.heap.size + 1) (zz n) (zz_lt (unhide HI)) w2 (unhide C1)) (fun _ _ => trivial) (fun _ _ _ _ _ _ _ _ => trivial) (Below.refl _ _) (fun _ => rfl)
    (fun pre W => (W.cell? ⟨w.heap.size, 0, none⟩ = some (.int .i64 ((pre.length : Nat) : Int)) ∧ W.frozen? ⟨w.heap.size, 0, none⟩ = false) ∧ Below w.heap.size w W)
    (fun _ _ _ => False)
    (OwnFrom.and (Own.from (fun s A B row hs hg hr => ⟨cell_kept hs.1 hg hr, (frozen_kept hs.1 hg hr).trans hs.2⟩) _) (ownFrom_below (Nat.le_refl _) (by omega)))
    (fun _ _ _ _ _ hs _ _ => hs)
    ⟨unhide C0, unhide HB0⟩
    (fun x => { tmps := #[.int .i64 n, undef, .int .i64 0, .pointer (some ⟨w.heap.size, 0, none⟩), .int .i64 n, .int .u64 ((zz n : Nat) : Int), .func (.func 29) #[] #[.pointer (some ⟨w.heap.size + 1, 0, none⟩)], bv x, undef, undef, undef], defers := [] }) ?assign ?body ?done ?stop
  case assign =>
    intro l x W K hK
    gi_wp2
    simpa using hK
  case body =>
    rintro l pre x W ⟨⟨hc, hf⟩, hB⟩ hN
    have hw1 : IntKind.i64.wrap (((pre.length : Nat) : Int) + 1) = ((pre.length : Nat) : Int) + 1 := by rw [IntKind.wrap_i64]; have := unhide HT; have hN : pre.length < (numB n).length := hN; omega
    gi_wp2
    exact ⟨KeepsOthers.setCell _ _ _, trivial, ⟨by rw [List.length_append]; exact World.cell?_setCell_same' _ _ _ (by rw [hc]; rfl), by rw [World.frozen?_setCell]; exact hf⟩, hB.setCell (p := ⟨w.heap.size, 0, none⟩) (Nat.le_refl _) _⟩
  case done =>
    rintro D ys W hD rfl ⟨⟨hc, _⟩, hB⟩ hK
    have HB := hide hB
    clear hB
    gi_wp2
    refine ⟨by simp, .inl ⟨_, _, rfl, run_takeDeferred hK, ?_⟩⟩
    refine ⟨_, results_tmp rfl _ _ _, ?_⟩
    exact ⟨rfl, (unhide HB).trans (belowK_b (w := w) (Nat.le_refl _) W D _ _ (by omega) hK rfl rfl)⟩
  case stop =>
    rintro D c pre W _ _ h _
    exact h.elim
end Go.Proofs.Ytifnjdplbdpelaa
