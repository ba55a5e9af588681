/- WireImplA, WireRoom, WireImplB, WireImplC, ValImplB, GenZeros: our own definitions and contracts; no statement of the seat is proved here. -/
import Derived.Test.YtobgmbfoofkdeaaDoorBase00
import Derived.RangeFuncNested
import Derived.RangeFuncBound
import Derived.RangeFuncCalls
import Derived.RangeFuncLeaves
import Derived.Shelf.Abstract
import Derived.Shelf.RegionOpen
import Derived.WalkKit
import Derived.OwnWalkIn
import Derived.TacticsInMore
import Derived.LoopNIn
import Derived.LoopIn
import Derived.Lib.AppendStr
import Derived.Laws.MakeOwn
import Derived.Test.YtobgmbfoofkdeaaDoorBase05
import Derived.Test.YtobgmbfoofkdeaaDoorBase02
import Derived.Lib.AppendZerosOnto
namespace Go.Proofs.YtobgmbfoofkdeaaDoor
open Go.RowKit Go.Shelf
attribute [local go_sem] Oper.semAt_some

theorem folded_any (n : Int) (hn : InR n) (w : World) : Calls Tryd.prog 72 #[.int .i64 n] w fun e w' => e = .returned (.int .u64 (zz n : Nat)) ∧ w' = w := by
  obtain ⟨h1, h2⟩ := hn
  by_cases h : n < 0
  · have HZ : Hid ((zz n : Int) = -2 * n - 1) := by show _ = _; unfold zz; rw [if_pos h]; omega
    go_enter Tryd.func72, Tryd.ntmps72
    go_wp2
    go_ret
    refine ⟨ret_int ?_, rfl⟩
    rw [unhide HZ]
    simp only [IntKind.wrap_u64]
    omega
  · have HZ : Hid ((zz n : Int) = 2 * n) := by show _ = _; unfold zz; rw [if_neg h]; omega
    go_enter Tryd.func72, Tryd.ntmps72
    go_wp2
    go_ret
    refine ⟨ret_int ?_, rfl⟩
    rw [unhide HZ]

theorem unfolded_any (u : Nat) (hu : u < 18446744073709551616) (w : World) : Calls Tryd.prog 76 #[.int .u64 (u : Nat)] w fun e w' => e = .returned (.int .i64 (unz u)) ∧ w' = w := by
  have HU := hide hu
  by_cases h : u % 2 = 1
  · have h' : (u : Int) % 2 = 1 := by omega
    have HZ : Hid (unz u = -((u / 2 : Nat) : Int) - 1) := by show _ = _; unfold unz; rw [if_pos h]
    go_enter Tryd.func76, Tryd.ntmps76
    go_wp2
    go_ret
    refine ⟨ret_int ?_, rfl⟩
    rw [unhide HZ]
    omega
  · have h' : ¬ (u : Int) % 2 = 1 := by omega
    have HZ : Hid (unz u = ((u / 2 : Nat) : Int)) := by show _ = _; unfold unz; rw [if_neg h]
    go_enter Tryd.func76, Tryd.ntmps76
    go_wp2
    go_ret
    refine ⟨ret_int ?_, rfl⟩
    rw [unhide HZ]
    omega

theorem isLast_any (x : Nat) (w : World) : Calls Tryd.prog 75 #[.int .u8 (x : Nat)] w fun e w' => e = .returned (.bool (decide (x < 128))) ∧ w' = w := by
  go_enter Tryd.func75, Tryd.ntmps75
  go_wp2
  go_ret
  exact ⟨ret_bool (by rw [Bool.eq_iff_iff]; simp; omega), rfl⟩

theorem groups_any (u : Nat) (w : World) :
    Calls Tryd.prog 71 #[.int .u64 (u : Nat)] w fun e w' => e = .returned (.func (.func 79) #[] #[.pointer (some ⟨w.heap.size, 0, none⟩)]) ∧ w' = w.alloc (.cells #[.int .u64 (u : Nat)] 64) := by
  go_enter Tryd.func71, Tryd.ntmps71
  go_wp2
  go_ret
  exact ⟨rfl, rfl⟩

theorem or128 (v : Nat) : bits .or .u8 128 (((v : Nat) : Int) % 256) = (((UInt8.ofNat (128 + v % 128)).toNat : Nat) : Int) := by
  have h : ∀ x : Fin 256, (128 ||| x.val) = 128 + x.val % 128 := by decide +kernel
  have h2 := u8_or_nat 128 (v % 256) (by omega) (by omega)
  have h3 := h ⟨v % 256, by omega⟩
  simp only at h3
  rw [h3] at h2
  rw [u8_toNat (by omega), show ((v : Nat) : Int) % 256 = ((v % 256 : Nat) : Int) by omega]
  refine Eq.trans h2 ?_
  omega

set_option maxRecDepth 100000 in
set_option maxHeartbeats 2000000 in
/-- The closure that tells the groups. -/
theorem groups1_in (n : Nat) (hn : 1 ≤ n) (l Bu u : Nat) (hu : u < 18446744073709551616) (J Jx : List UInt8 → World → Prop)
    (hY : ∀ pre x W, J pre W → pre.length < (grp u).length → YieldAt Fence.wide (n - 1) Tryd.prog l #[bv x] W fun e W' =>
      (e = .returned (.bool true) ∧ J (pre ++ [x]) W' ∧ True) ∨ (e = .returned (.bool false) ∧ Jx (pre ++ [x]) W'))
    (W : World) (hf : W.cell? ⟨Bu, 0, none⟩ = some (.int .u64 ((u : Nat) : Int))) (h0 : J [] W) :
    CallsIn Fence.wide n Tryd.prog 79 #[.func (.yield l) #[] #[], .pointer (some ⟨Bu, 0, none⟩)] W fun e W' => (∃ v, e = .returned v) ∧
      ((∃ ys, ys = grp u ∧ J ys W') ∨ (∃ pre, True ∧ Jx pre W')) := by
  have HY := hide hY
  clear hY
  refine callsIn_of_wp Tryd.func79 rfl trivial ?_ rfl
  simp only [Tryd.ntmps79, List.size_toArray, List.length_cons, List.length_nil, Nat.reduceAdd, Nat.reduceSub, Array.replicate_succ, Array.replicate_zero, List.push_toArray, List.append_toArray, List.nil_append, List.cons_append]
  gi_wp2
  gi_loopw [3] (fun r wr => ∃ (v : Nat) (pre : List UInt8), r = .int .u64 ((v : Nat) : Int) ∧ v ≤ u ∧ pre ++ grp v = grp u ∧ J pre wr)
    (fun r _ => (intOf r).toNat)
  case atStart => exact ⟨u, [], rfl, Nat.le_refl _, rfl, h0⟩
  case round =>
    obtain ⟨v, pre, rfl, hv, he, hJ⟩ := hrel
    have HE := hide he
    have HJ := hide hJ
    clear he hJ
    by_cases hlt : 128 ≤ v
    · have hge : ((v : Nat) : Int) ≥ 128 := by omega
      have HX := hide (or128 v)
      have HL : Hid (pre.length < (grp u).length) := by
        show _ < _
        have h1 := congrArg List.length (unhide HE)
        have := grp_pos v
        rw [List.length_append] at h1
        omega
      have HN : Hid ((pre ++ [UInt8.ofNat (128 + v % 128)]) ++ grp (v / 128) = grp u) := by
        show _ = _
        rw [← unhide HE, grp_high hlt, List.append_assoc]; rfl
      generalize UInt8.ofNat (128 + v % 128) = x at *
      obtain ⟨fn, tmps, assign, body, hy, hR⟩ := unhide HY pre x wr (unhide HJ) (unhide HL)
      have hx := unhide HX
      have hy : (Instr.yield l #[.int .u8 ((x.toNat : Nat) : Int)]).run Tryd.prog wr = .ok (.round l fn tmps assign body) wr := hy
      gi_wp2
      refine hR.mono ?_
      clear hx hy hR
      rintro e W3 (⟨rfl, hJ3, _⟩ | ⟨rfl, hJx3⟩)
      · gi_wp2
        go_roundw
        case rel => exact ⟨v / 128, _, by go_num, by omega, unhide HN, hJ3⟩
        case measure => simp [intOf]; omega
      · gi_wp2
        refine bodyPost_ret (results_none rfl _ _ _) rfl ?_
        exact ⟨⟨_, rfl⟩, .inr ⟨_, trivial, hJx3⟩⟩
    · have hge : ¬ ((v : Nat) : Int) ≥ 128 := by omega
      have HX0 : Hid (((v : Nat) : Int) = (((UInt8.ofNat v).toNat : Nat) : Int)) := by show _ = _; rw [u8_toNat (by omega)]
      have HL : Hid (pre.length < (grp u).length) := by
        show _ < _
        have h1 := congrArg List.length (unhide HE)
        have := grp_pos v
        rw [List.length_append] at h1
        omega
      have HN : Hid (pre ++ [UInt8.ofNat v] = grp u) := by
        show _ = _
        rw [← unhide HE, grp_low (by omega)]
      generalize UInt8.ofNat v = x at *
      obtain ⟨fn, tmps, assign, body, hy, hR⟩ := unhide HY pre x wr (unhide HJ) (unhide HL)
      have hy : (Instr.yield l #[.int .u8 ((v : Nat) : Int)]).run Tryd.prog wr = .ok (.round l fn tmps assign body) wr := by rw [unhide HX0]; exact hy
      gi_wp2
      refine hR.mono ?_
      clear hy hR
      rintro e W3 (⟨rfl, hJ3, _⟩ | ⟨rfl, hJx3⟩)
      · gi_wp2
        go_end0
        exact ⟨⟨_, rfl⟩, .inl ⟨_, unhide HN, hJ3⟩⟩
      · gi_wp2
        go_end0
        exact ⟨⟨_, rfl⟩, .inr ⟨_, trivial, hJx3⟩⟩

/-- The iterator's contract. -/
theorem groups_stops (n : Nat) (hn : 1 ≤ n) (Bu u : Nat) (hu : u < 18446744073709551616) (w : World) (hf : w.cell? ⟨Bu, 0, none⟩ = some (.int .u64 ((u : Nat) : Int))) :
    SeqStopsK Fence.wide n Tryd.prog 79 #[.pointer (some ⟨Bu, 0, none⟩)] (fun x : UInt8 => #[bv x]) (fun _ _ => True) (fun ys => ys = grp u) (fun _ => True) (grp u).length w := fun l J Jx W hW _ _ hY h0 =>
  groups1_in n hn l Bu u hu J Jx hY W ((hW.cell (p := ⟨Bu, 0, none⟩) (World.block_lt_of_cell? w _ hf)).trans hf) h0

theorem wboxNew (W : World) (v : Value) (t : TypeId) : (W.alloc (.cells #[v] t)).cell? ⟨W.heap.size, 0, none⟩ = some v ∧ (W.alloc (.cells #[v] t)).frozen? ⟨W.heap.size, 0, none⟩ = false := ⟨by simp, by simp⟩
theorem wboxKept {W : World} {a : Addr} {v : Value} (o : Obj) (h : W.cell? a = some v) : (W.alloc o).cell? a = some v := cell_kept h (World.grownBy_alloc W o none) (fun r e => by cases e)
theorem wboxFrozen {W : World} {a : Addr} {v : Value} (o : Obj) (h : W.cell? a = some v) (hf : W.frozen? a = false) : (W.alloc o).frozen? a = false := (frozen_kept h (World.grownBy_alloc W o none) (fun r e => by cases e)).trans hf

set_option maxRecDepth 100000 in
set_option maxHeartbeats 2000000 in
theorem size_any (n : Int) (hn : InR n) (w : World) : Calls Tryd.prog 66 #[.int .i64 n] w fun e w' => e = .returned (.int .i64 ((numB n).length : Nat)) ∧ Below w.heap.size w w' := by
  obtain ⟨w2, hw2⟩ : ∃ w2, w2 = (w.alloc (.cells #[.int .i64 0] 3)).alloc (.cells #[.int .u64 ((zz n : Nat) : Int)] 64) := ⟨_, rfl⟩
  have HB0 : Hid (Below w.heap.size w w2) := by rw [hw2]; exact ((Below.refl _ w).alloc (Nat.le_refl _) _).alloc (by simp) _
  have HSZ : Hid (w2.heap.size = w.heap.size + 2) := by rw [hw2]; show _ = _; simp
  have c0 : w2.cell? ⟨w.heap.size, 0, none⟩ = some (.int .i64 0) ∧ w2.frozen? ⟨w.heap.size, 0, none⟩ = false := by
    have c := wboxNew w (.int .i64 0) 3
    rw [hw2]
    exact ⟨wboxKept _ c.1, wboxFrozen _ c.1 c.2⟩
  have c1 : w2.cell? ⟨w.heap.size + 1, 0, none⟩ = some (.int .u64 ((zz n : Nat) : Int)) := by
    have c := wboxNew (w.alloc (.cells #[.int .i64 0] 3)) (.int .u64 ((zz n : Nat) : Int)) 64
    rw [World.size_alloc] at c
    rw [hw2]
    exact c.1
  have C0 := hide c0
  have C1 := hide c1
  have HW2 := hide hw2
  have HI := hide hn
  have HT := hide (numB_ten hn)
  clear c0 c1 hw2 hn
  refine (callsIn_wide (n := 3)).1 ?_
  refine callsIn_of_wp_marks Tryd.func66 rfl trivial ?_ rfl
  simp only [Tryd.ntmps66, List.size_toArray, List.length_cons, List.length_nil, Nat.reduceAdd, Nat.reduceSub, Array.replicate_succ, Array.replicate_zero, List.push_toArray, List.append_toArray, List.nil_append, List.cons_append]
  gi_wp2
  refine ⟨trivial, (callsIn_wide.2 (folded_any n (unhide HI) _)).mono ?_⟩
  rintro e w' ⟨rfl, rfl⟩
  gi_wp2
  refine ⟨trivial, (callsIn_wide.2 (groups_any (zz n) _)).mono ?_⟩
  rintro e w' ⟨rfl, rfl⟩
  rw [← unhide HW2]
  simp only [World.size_alloc]
  gi_wp2
  have hsz := unhide HSZ
  refine wpIn_rangeFunc_ownF rfl (by omega) (gf := 79) (lb := #[.pointer (some ⟨w.heap.size + 1, 0, none⟩)]) rfl trivial (enters_of Tryd.func79 (by kernel_rfl) rfl)
    (groups_stops (3 - 1) (by omega) (w.heap.size + 1) (zz n) (zz_lt (unhide HI)) w2 (unhide C1)) (fun _ _ => trivial) (fun _ _ _ _ _ _ _ _ => trivial) (Below.refl _ _) (fun _ => rfl)
    (fun pre W => (W.cell? ⟨w.heap.size, 0, none⟩ = some (.int .i64 ((pre.length : Nat) : Int)) ∧ W.frozen? ⟨w.heap.size, 0, none⟩ = false) ∧ Below w.heap.size w W)
    (fun _ _ _ => False)
    (OwnFrom.and (Own.from (fun s A B row hs hg hr => ⟨cell_kept hs.1 hg hr, (frozen_kept hs.1 hg hr).trans hs.2⟩) _) (ownFrom_below (Nat.le_refl _) (by omega)))
    (fun _ _ _ _ _ hs _ _ => hs)
    ⟨unhide C0, unhide HB0⟩
    (fun x => { tmps := #[.int .i64 n, undef, .int .i64 0, .pointer (some ⟨w.heap.size, 0, none⟩), .int .i64 n, .int .u64 ((zz n : Nat) : Int), .func (.func 79) #[] #[.pointer (some ⟨w.heap.size + 1, 0, none⟩)], bv x, undef, undef, undef], defers := [] }) ?assign ?body ?done ?stop
  case assign =>
    intro l x W K hK
    gi_wp2
    simpa using hK
  case body =>
    rintro l pre x W ⟨⟨hc, hf⟩, hB⟩ hN
    have hw1 : IntKind.i64.wrap (((pre.length : Nat) : Int) + 1) = ((pre.length : Nat) : Int) + 1 := by rw [IntKind.wrap_i64]; have := unhide HT; have hN : pre.length < (numB n).length := hN; omega
    gi_wp2
    exact ⟨KeepsOthers.setCell _ _ _, trivial, ⟨by rw [List.length_append]; exact World.cell?_setCell_same' _ _ _ (by rw [hc]; rfl), by rw [World.frozen?_setCell]; exact hf⟩, hB.setCell (p := ⟨w.heap.size, 0, none⟩) (Nat.le_refl _) _⟩
  case done =>
    rintro D ys W hD rfl ⟨⟨hc, _⟩, hB⟩ hK
    have HB := hide hB
    clear hB
    gi_wp2
    refine ⟨by simp, .inl ⟨_, _, rfl, run_takeDeferred hK, ?_⟩⟩
    refine ⟨_, results_tmp rfl _ _ _, ?_⟩
    exact ⟨rfl, (unhide HB).trans (belowK_b (w := w) (Nat.le_refl _) W D _ _ (by omega) hK rfl rfl)⟩
  case stop =>
    rintro D c pre W _ _ h _
    exact h.elim
end Go.Proofs.YtobgmbfoofkdeaaDoor

namespace Go.Proofs.YtobgmbfoofkdeaaDoor
open Go.RowKit Go.Lib

/-- Block g, of type t, holds C cells, the first of which are bs; it is new since w0. -/
structure Room (w0 : World) (t : TypeId) (g C : Nat) (bs : List UInt8) (W : World) : Prop where
  own : ∃ cur : Array Value, W.heap[g]? = some (.cells cur t (0, 0)) ∧ cur.size = C ∧ cur.toList.take bs.length = bs.map bv
  le : bs.length ≤ C
  cm : C ≤ maxLen
  new : w0.heap.size ≤ g
  bb : Below w0.heap.size w0 W
section
variable {w0 W W' : World} {t : TypeId} {g C : Nat} {bs : List UInt8}
theorem Room.to (h : Room w0 t g C bs W) (hb : Below w0.heap.size w0 W') (hk : W'.heap[g]? = W.heap[g]?) : Room w0 t g C bs W' := by
  obtain ⟨⟨cur, h1, h2, h3⟩, h4, h5, h6, _⟩ := h
  exact ⟨⟨cur, hk.trans h1, h2, h3⟩, h4, h5, h6, hb⟩
theorem Room.lt (h : Room w0 t g C bs W) : g < W.heap.size := by
  obtain ⟨cur, h1, _⟩ := h.own
  exact (Array.getElem?_eq_some_iff.1 h1).1
theorem Room.later (h : Room w0 t g C bs W) (hb : Below W.heap.size W W') : Room w0 t g C bs W' := h.to (h.bb.trans (hb.mono h.bb.size)) (hb.block g h.lt)
theorem Room.alloc (h : Room w0 t g C bs W) (o : Obj) : Room w0 t g C bs (W.alloc o) := h.later ((Below.refl _ W).alloc (Nat.le_refl _) _)
theorem Room.drewN (h : Room w0 t g C bs W) (n : Nat) : Room w0 t g C bs (W.drewN n) := h.to ⟨h.bb.os, h.bb.tape, h.bb.output, h.bb.size, h.bb.block⟩ rfl
theorem Room.drew (h : Room w0 t g C bs W) : Room w0 t g C bs W.drew := h.to h.bb.drew rfl
theorem Room.set (h : Room w0 t g C bs W) {p : Addr} (hp : p.block ≠ g) (hn : w0.heap.size ≤ p.block) (v : Value) : Room w0 t g C bs (W.setCell p v) := h.to (h.bb.setCell hn v) (Below.heap_setCell _ _ _ _ (fun e => hp e.symm))
/-- A row of our own has room. -/
theorem Room.of_own {cap n : Nat} (h : Own w0 (.slice (some ⟨g, 0, none⟩) n cap) bs W) (_ : bs.length = n) : Room w0 5 g cap bs W := by
  rcases h.own.2 with ⟨e, _⟩ | ⟨g', cap', cur, e, _, h1, h2, h3, h4, h5⟩
  · cases e
  · simp only [Value.slice.injEq, Option.some.injEq, Addr.mk.injEq, and_true] at e
    obtain ⟨rfl, _, rfl⟩ := e
    exact ⟨⟨cur, h1, by simpa using h4, by simpa using h5⟩, h2, h3, h.new g rfl, h.bb⟩
theorem Room.isOwn (h : Room w0 5 g C bs W) : Own w0 (.slice (some ⟨g, 0, none⟩) bs.length C) bs W := by
  obtain ⟨cur, h1, h2, h3⟩ := h.own
  exact ⟨⟨by simp, .inr ⟨g, C, cur, rfl, Nat.zero_le _, h1, h.le, h.cm, by simpa using h2, by simpa using h3⟩⟩, fun k hk => by simp [Value.ownBlock] at hk; subst hk; exact h.new, h.bb⟩
theorem Room.bytes (h : Room w0 t g C bs W) : Bytes W (.slice (some ⟨g, 0, none⟩) bs.length C) bs := by
  obtain ⟨cur, h1, h2, h3⟩ := h.own
  refine .inr ⟨⟨g, 0, none⟩, C, rfl, h.le, h.cm, fun j x hx => ?_⟩
  rw [Addr.add_mid, Nat.zero_add, cell_of_row _ _ _ _ _ _ h1]
  rw [← h3, List.getElem?_take] at hx
  split at hx
  · simpa using hx
  · cases hx

/-- append into the room. -/
theorem Room.append {P : Program} (h : Room w0 t g C bs W) {u : Value} {xs : List UInt8} (hu : Bytes W u xs) (hroom : bs.length + xs.length ≤ C) (tt ty e : TypeId) (i : TypeInfo) (ht : P.underlying tt = some (.slice e)) (hi : P.info? e = some i) (hs : i.size = 1) :
    ∃ W', (Builtin.append_ #[tt, tt] ty #[.slice (some ⟨g, 0, none⟩) bs.length C, u]).run P W = .ok (.slice (some ⟨g, 0, none⟩) (bs.length + xs.length) C) W' ∧ Room w0 t g C (bs ++ xs) W' ∧ W.grownBy W' (some g) := by
  obtain ⟨⟨cur, h1, h2, h3⟩, h4, h5, h6, hb⟩ := h
  rcases hu with ⟨rfl, rfl⟩ | ⟨ad, c, rfl, _, _, hr⟩
  · refine ⟨W, ?_, by rw [List.append_nil]; exact ⟨⟨cur, h1, h2, h3⟩, h4, h5, h6, hb⟩, World.grownBy.refl _ _⟩
    have hf : (Builtin.firstCells 1 0 (.slice none 0 0)).run P W = .ok #[] W := by simp [Builtin.firstCells, go_sem]
    simp [Builtin.append_, run_underlying ht, sizeOf, typeInfo, hi, hs, Builtin.lenOf, h4, hf, storeCells, Sem.run_pure]
  · have hn1 : (xs.map bv).length = xs.length * i.size := by simp [hs]
    have hf := run_firstCells_some (P := P) W i.size xs.length ad xs.length c (xs.map bv) hn1 hr
    have hst := run_storeCells_at P g (bs.length * i.size) t (xs.map bv) 0 cur W h1 (by simp [hs]; omega) (bv_one _)
    simp only [Nat.add_zero] at hst
    refine ⟨W.setRow g (cur.toList.take (bs.length * i.size) ++ xs.map bv ++ cur.toList.drop (bs.length * i.size + (xs.map bv).length)).toArray, ?_, ⟨⟨_, setRow_heap W g cur _ t _ h1, ?_, ?_⟩, by simpa using hroom, h5, h6, ?_⟩, ⟨rfl, rfl, rfl, by simp, fun k _ hk => setRow_other W g k _ (fun e => hk (by simp [e]))⟩⟩
    · simp [Builtin.append_, run_underlying ht, sizeOf, typeInfo, hi, Builtin.lenOf, hroom, hf, Addr.add_lit, hst]
    · simp only [List.size_toArray, List.length_append, List.length_take, List.length_drop, Array.length_toList, List.length_map, hs]
      omega
    · simp only [hs, Nat.mul_one, h3]
      rw [show (bs ++ xs).length = (bs.map bv ++ xs.map bv).length by simp, List.map_append]
      exact List.take_left
    · exact hb.trans ⟨rfl, rfl, rfl, by simp, fun k hk => setRow_other W g k _ (by omega)⟩
/-- append of a text into the room. -/
theorem Room.appendS {P : Program} (h : Room w0 t g C bs W) (s : List UInt8) (hroom : bs.length + s.length ≤ C) (tt u ty e : TypeId) (i : TypeInfo) (ht : P.underlying tt = some (.slice e)) (hu : P.underlying u = some .string) (hi : P.info? e = some i) (hs : i.size = 1) :
    ∃ W', (Builtin.append_ #[tt, u] ty #[.slice (some ⟨g, 0, none⟩) bs.length C, .string ⟨s.toArray⟩]).run P W = .ok (.slice (some ⟨g, 0, none⟩) (bs.length + s.length) C) W' ∧ Room w0 t g C (bs ++ s) W' ∧ W.grownBy W' (some g) := by
  obtain ⟨⟨cur, h1, h2, h3⟩, h4, h5, h6, hb⟩ := h
  have hsz : (⟨s.toArray⟩ : ByteArray).size = s.length := by simp [ByteArray.size]
  have hc : strCells ⟨s.toArray⟩ = s.map bv := by simp [strCells, bv]
  have hf := run_firstCells_string (P := P) W 1 ⟨s.toArray⟩
  have hst := run_storeCells_at P g bs.length t (s.map bv) 0 cur W h1 (by simp; omega) (bv_one _)
  simp only [Nat.add_zero] at hst
  rw [hc, hsz] at hf
  refine ⟨W.setRow g (cur.toList.take bs.length ++ s.map bv ++ cur.toList.drop (bs.length + (s.map bv).length)).toArray, ?_, ⟨⟨_, setRow_heap W g cur _ t _ h1, ?_, ?_⟩, by simpa using hroom, h5, h6, ?_⟩, ⟨rfl, rfl, rfl, by simp, fun k _ hk => setRow_other W g k _ (fun e => hk (by simp [e]))⟩⟩
  · simp [Builtin.append_, run_underlying ht, run_underlying hu, sizeOf, typeInfo, hi, hs, Builtin.lenOf, hroom, hf, hsz, Addr.add_lit, hst]
  · simp only [List.size_toArray, List.length_append, List.length_take, List.length_drop, Array.length_toList, List.length_map]
    omega
  · rw [h3, show (bs ++ s).length = (bs.map bv ++ s.map bv).length by simp, List.map_append]
    exact List.take_left
  · exact hb.trans ⟨rfl, rfl, rfl, by simp, fun k hk => setRow_other W g k _ (by omega)⟩
end

/-- append with its run laid, at the walk's list of operations inside a fence. -/
theorem wpListIn_append_run {F : Fence} {n : Nat} {P : Program} {w W' : World} {ops : Array Oper} {rest : List Oper} {o : Oper} {a : Act} {Q : Exit → Act → World → Prop}
    (hg : o.guard = none) (s x : Operand) (t u : TypeId) (hop : o.op = Op.call { callee := Callee.builtin Builtin.append, args := #[s, x], argTypes := #[t, u] }) (sv xv v : Value) (hs : a.eval s = sv) (hx : a.eval x = xv)
    (hrun : (Builtin.append_ #[t, u] o.type #[sv, xv]).run P w = .ok v W') (hK : wpListIn F n P ops Q rest (a.put o.dst v) W') : wpListIn F n P ops Q (o :: rest) a w := by
  refine wpListIn_plain hg fun K hK' => ?_
  unfold Oper.wpIn
  refine ⟨?_, ?_⟩
  · simp [Oper.about, hop, resolve, Target.leads, Sem.run_pure]
  · rw [Oper.semAt_plain F _ _ (by rw [hop]; intro c hc'; cases hc')]
    simp [execOp, hop, resolve, invoke, builtin, hs, hx, hrun, Result.andThen]
    exact hK' _ _ hK
theorem wpList_append_run {P : Program} {w W' : World} {ops : Array Oper} {rest : List Oper} {o : Oper} {a : Act} {Q : Exit → Act → World → Prop}
    (hg : o.guard = none) (s x : Operand) (t u : TypeId) (hop : o.op = Op.call { callee := Callee.builtin Builtin.append, args := #[s, x], argTypes := #[t, u] }) (sv xv v : Value) (hs : a.eval s = sv) (hx : a.eval x = xv)
    (hrun : (Builtin.append_ #[t, u] o.type #[sv, xv]).run P w = .ok v W') (hK : wpList P ops Q rest (a.put o.dst v) W') : wpList P ops Q (o :: rest) a w := by
  refine wpList_plain hg fun K hK' => ?_
  unfold Oper.wp
  simp [execOp, hop, resolve, invoke, builtin, hs, hx, hrun, Result.andThen]
  exact hK' _ _ hK

/-- make of no bytes, with room. -/
theorem wMakeRoom (n : Nat) (hn : n ≤ 1073741824) : ∃ Z : Array Value, Z.size = n ∧ ∀ W : World, (Instr.makeSlice 25 (.int .i64 0) (.int .i64 (n : Int))).run Tryd.prog W = .ok (.slice (some ⟨W.heap.size, 0, none⟩) 0 n) (W.alloc (.cells Z 5)) := by
  obtain ⟨i, hi, hz0, hz1, hz2⟩ := infoByte
  refine ⟨madeCells (Value.int .u8 0).cells (Int.toNat n * i.size), ?_, fun W => ?_⟩
  · rw [size_madeCells, hz1]; simp
  · have := run_make (P := Tryd.prog) W 25 5 i (.int .u8 0) Tryd.underlying25 hi hz0 .i64 .i64 0 n (by omega) (by omega) (by rw [hz2]; omega) (by omega)
    simpa using this
theorem Room.made (w : World) {n : Nat} {Z : Array Value} (hZ : Z.size = n) (hn : n ≤ 1073741824) : Room w 5 w.heap.size n [] (w.alloc (.cells Z 5)) :=
  ⟨⟨Z, heap_alloc_new w _, hZ, by simp⟩, Nat.zero_le _, by unfold maxLen; omega, Nat.le_refl _, (Below.refl _ w).alloc (Nat.le_refl _) _⟩
end Go.Proofs.YtobgmbfoofkdeaaDoor

namespace Go.Proofs.YtobgmbfoofkdeaaDoor
open Go.RowKit Go.Shelf Go.Lib
attribute [local go_sem] Oper.semAt_some

theorem Room.own_from {w0 : World} {t : TypeId} {g C B : Nat} {β : Type} (hB : w0.heap.size ≤ B) (f : β → List UInt8) : OwnFrom B (fun (s : β) W => Room w0 t g C (f s) W) := fun s X Y row h hg hr =>
  h.to (h.bb.grown hg h.bb.size fun k e => Nat.le_trans hB (hr k e).1) (hg.block g h.lt fun e => by
    obtain ⟨_, o, ho, hc⟩ := hr g e.symm
    obtain ⟨cur, h1, _⟩ := h.own
    rw [h1] at ho
    cases ho
    cases hc)

set_option maxHeartbeats 1000000 in
/-- Bytes in memory of their own, with room. -/
theorem wOwn_any (u : Value) (bs : List UInt8) (n : Nat) (w : World) (h : Bytes w u bs) (hl : bs.length + n ≤ 1073741824) : Calls Tryd.prog 65 #[u, .int .i64 (n : Int)] w fun e w' => e = .returned (.slice (some ⟨w.heap.size, 0, none⟩) bs.length (bs.length + n)) ∧ Room w 5 w.heap.size (bs.length + n) bs w' := by
  obtain ⟨a, c, rfl, hlc⟩ := h.form
  obtain ⟨k, hk⟩ : ∃ k, k = bs.length := ⟨_, rfl⟩
  rw [← hk] at h hlc hl ⊢
  obtain ⟨m, hm⟩ : ∃ m, m = k + n := ⟨_, rfl⟩
  have hmm : ((k : Nat) : Int) + ((n : Nat) : Int) = ((m : Nat) : Int) := by omega
  rw [← hm] at hl ⊢
  have hm30 : ((m : Nat) : Int) ≤ 1073741824 := by omega
  have hkm : k ≤ m := by omega
  obtain ⟨Z, hZ, hrun⟩ := wMakeRoom m hl
  have hR := Room.made w hZ hl
  obtain ⟨i, hi, hz0, hz1, hz2⟩ := infoByte
  obtain ⟨W', hr, hR', _⟩ := hR.append (P := Tryd.prog) (h.alloc (.cells Z 5)) (by rw [← hk]; simp; exact hkm) 25 25 5 i Tryd.underlying25 hi hz1
  simp only [List.length_nil, Nat.zero_add, List.nil_append, ← hk] at hr hR'
  have HR := hide hR'
  have HH := hide hr
  clear hR hR' hr hk h hlc hm hl
  go_enter Tryd.func65, Tryd.ntmps65
  go_wp2_with (at_builtin; refine wpList_append_run rfl _ _ 25 25 rfl _ _ _ rfl rfl (unhide HH) ?_)
  go_wp2
  go_ret
  exact ⟨rfl, unhide HR⟩

set_option maxRecDepth 100000 in
set_option maxHeartbeats 2000000 in
/-- A number's bytes are put behind bytes that have room. -/
theorem wPutNumber_any (w0 : World) (t : TypeId) (g C : Nat) (bs : List UInt8) (n : Int) (hn : InR n) (w : World) (h : Room w0 t g C bs w) (hroom : bs.length + (numB n).length ≤ C) (hl : bs.length ≤ 1073741824) :
    Calls Tryd.prog 64 #[.slice (some ⟨g, 0, none⟩) bs.length C, .int .i64 n] w fun e w' => e = .returned (.slice (some ⟨g, 0, none⟩) (bs.length + (numB n).length) C) ∧ Room w0 t g C (bs ++ numB n) w' := by
  obtain ⟨k, hk⟩ : ∃ k, k = bs.length := ⟨_, rfl⟩
  rw [← hk] at hroom hl ⊢
  obtain ⟨w2, hw2⟩ : ∃ w2, w2 = (w.alloc (.cells #[.slice (some ⟨g, 0, none⟩) k C] 25)).alloc (.cells #[.int .u64 ((zz n : Nat) : Int)] 64) := ⟨_, rfl⟩
  have HR2 : Hid (Room w0 t g C bs w2) := by rw [hw2]; exact (h.alloc _).alloc _
  have HSZ : Hid (w2.heap.size = w.heap.size + 2) := by rw [hw2]; show _ = _; simp
  have c0 : w2.cell? ⟨w.heap.size, 0, none⟩ = some (.slice (some ⟨g, 0, none⟩) k C) ∧ w2.frozen? ⟨w.heap.size, 0, none⟩ = false := by
    have c := wboxNew w (.slice (some ⟨g, 0, none⟩) k C) 25
    rw [hw2]
    exact ⟨wboxKept _ c.1, wboxFrozen _ c.1 c.2⟩
  have c1 : w2.cell? ⟨w.heap.size + 1, 0, none⟩ = some (.int .u64 ((zz n : Nat) : Int)) := by
    have c := wboxNew (w.alloc (.cells #[.slice (some ⟨g, 0, none⟩) k C] 25)) (.int .u64 ((zz n : Nat) : Int)) 64
    rw [World.size_alloc] at c
    rw [hw2]
    exact c.1
  have hgw := h.lt
  have h0w := h.new
  have HG := hide hgw
  have H0 := hide h0w
  have C0 := hide c0
  have C1 := hide c1
  have HW2 := hide hw2
  have HI := hide hn
  have HT := hide (numB_ten hn)
  have HK := hide hk
  have HRM := hide hroom
  have HL := hide hl
  clear c0 c1 hw2 hn h hk hroom hl hgw h0w
  refine (callsIn_wide (n := 3)).1 ?_
  refine callsIn_of_wp_marks Tryd.func64 rfl trivial ?_ rfl
  simp only [Tryd.ntmps64, List.size_toArray, List.length_cons, List.length_nil, Nat.reduceAdd, Nat.reduceSub, Array.replicate_succ, Array.replicate_zero, List.push_toArray, List.append_toArray, List.nil_append, List.cons_append]
  gi_wp2
  refine ⟨trivial, (callsIn_wide.2 (folded_any n (unhide HI) _)).mono ?_⟩
  rintro e w' ⟨rfl, rfl⟩
  gi_wp2
  refine ⟨trivial, (callsIn_wide.2 (groups_any (zz n) _)).mono ?_⟩
  rintro e w' ⟨rfl, rfl⟩
  rw [← unhide HW2]
  simp only [World.size_alloc]
  gi_wp2
  have hsz := unhide HSZ
  have hgw := unhide HG
  have h0w := unhide H0
  refine wpIn_rangeFunc_ownF rfl (by omega) (gf := 79) (lb := #[.pointer (some ⟨w.heap.size + 1, 0, none⟩)]) rfl trivial (enters_of Tryd.func79 (by kernel_rfl) rfl)
    (groups_stops (3 - 1) (by omega) (w.heap.size + 1) (zz n) (zz_lt (unhide HI)) w2 (unhide C1)) (fun _ _ => trivial) (fun _ _ _ _ _ _ _ _ => trivial) (Below.refl _ _) (fun _ => rfl)
    (fun pre W => (W.cell? ⟨w.heap.size, 0, none⟩ = some (.slice (some ⟨g, 0, none⟩) (k + pre.length) C) ∧ W.frozen? ⟨w.heap.size, 0, none⟩ = false) ∧ Room w0 t g C (bs ++ pre) W)
    (fun _ _ _ => False)
    (OwnFrom.and (Own.from (fun s A B row hs hg hr => ⟨cell_kept hs.1 hg hr, (frozen_kept hs.1 hg hr).trans hs.2⟩) _) (Room.own_from (by omega) _))
    (fun _ _ _ _ _ hs _ _ => hs)
    ⟨unhide C0, by rw [List.append_nil]; exact unhide HR2⟩
    (fun x => { tmps := #[.slice (some ⟨g, 0, none⟩) k C, .int .i64 n, .pointer (some ⟨w.heap.size, 0, none⟩), undef, .slice none 0 0, .int .u8 ((x.toNat : Nat) : Int), .int .i64 n, .int .u64 ((zz n : Nat) : Int), .func (.func 79) #[] #[.pointer (some ⟨w.heap.size + 1, 0, none⟩)], .int .u8 ((x.toNat : Nat) : Int), undef, undef, undef, undef, undef], defers := [] }) ?assign ?body ?done ?stop
  case assign =>
    intro l x W K hK
    gi_wp2
    simpa [bv] using hK
  case body =>
    rintro l pre x W ⟨⟨hc, hf⟩, hR⟩ hN
    obtain ⟨i, hi, hz0, hz1, hz2⟩ := infoByte
    have hlen : (bs ++ pre).length = k + pre.length := by rw [List.length_append, ← unhide HK]
    have hNN : pre.length < (numB n).length := hN
    obtain ⟨W', hr, hR', hg⟩ := (hR.alloc (.cells #[.int .u8 (x.toNat : Nat)] 5)).append (P := Tryd.prog) (bytes_one W x) (by rw [hlen]; have := unhide HRM; simp; omega) 25 25 5 i Tryd.underlying25 hi hz1
    have hBN : w.heap.size < W.heap.size := World.block_lt_of_cell? W ⟨w.heap.size, 0, none⟩ hc
    have hcA := wboxKept (.cells #[.int .u8 (x.toNat : Nat)] 5) hc
    have hfA := wboxFrozen (.cells #[.int .u8 (x.toNat : Nat)] 5) hc hf
    have hgb : W'.heap[w.heap.size]? = (W.alloc (.cells #[.int .u8 (x.toNat : Nat)] 5)).heap[w.heap.size]? := hg.block _ (by simp; omega) (by simp; omega)
    have hc1 : W'.cell? ⟨w.heap.size, 0, none⟩ = some (.slice (some ⟨g, 0, none⟩) (k + pre.length) C) := (World.cell?_of_block (a := ⟨w.heap.size, 0, none⟩) hgb).trans hcA
    have hf1 : W'.frozen? ⟨w.heap.size, 0, none⟩ = false := (World.frozen?_of_block (a := ⟨w.heap.size, 0, none⟩) hgb).trans hfA
    have HKO : Hid (KeepsOthers W W') := (KeepsOthers.alloc _ _).trans (KeepsOthers.of_grownBy hg fun j o e ho => by
      cases e
      obtain ⟨cur, h1, _⟩ := (hR.alloc (.cells #[.int .u8 (x.toNat : Nat)] 5)).own
      rw [h1] at ho
      cases ho
      rfl)
    simp only [List.length_singleton, hlen] at hr
    have HR := hide hR'
    have HRN := hide hr
    have HBW := hide hR'.lt
    clear hR hR' hr hg hcA hfA hgb hlen
    gi_wp2_with (gi_at_builtin; refine wpListIn_append_run rfl _ _ 25 25 rfl _ _ _ rfl rfl (unhide HRN) ?_)
    gi_wp2
    show KeepsOthers W (W'.setCell ⟨w.heap.size, 0, none⟩ _) ∧ True ∧ (_ ∧ _) ∧ _
    refine ⟨(unhide HKO).trans (KeepsOthers.setCell _ _ _), trivial, ⟨?_, ?_⟩, ?_⟩
    · rw [List.length_append, ← Nat.add_assoc]; exact World.cell?_setCell_same' _ _ _ (by rw [hc1]; rfl)
    · rw [World.frozen?_setCell]; exact hf1
    · rw [← List.append_assoc]; exact (unhide HR).set (by show w.heap.size ≠ g; omega) (by show w0.heap.size ≤ w.heap.size; omega) _
  case done =>
    rintro D ys W hD rfl ⟨⟨hc, _⟩, hR⟩ hK
    have HR := hide hR
    clear hR
    have HLN : Hid (k + (grp (zz n)).length = k + (numB n).length) := rfl
    gi_wp2
    refine ⟨by simp, .inl ⟨_, _, rfl, run_takeDeferred hK, ?_⟩⟩
    refine ⟨_, results_tmp rfl _ _ _, ?_⟩
    exact ⟨rfl, (unhide HR).to ((unhide HR).bb.trans (belowK_b (w := w2) (by omega) W D _ _ (by omega) hK rfl rfl)) (World.putObj_heap_other (by omega))⟩
  case stop =>
    rintro D c pre W _ _ h _
    exact h.elim
end Go.Proofs.YtobgmbfoofkdeaaDoor

namespace Go.Proofs.YtobgmbfoofkdeaaDoor
open Go.RowKit Go.Shelf Go.Lib

theorem Bytes.laterW {w w' : World} {u : Value} {bs : List UInt8} (h : Bytes w u bs) (hb : Below w.heap.size w w') : Bytes w' u bs := h.kept fun k _ hk => hb.block k hk
theorem Room.lift {w0 w1 W : World} {t : TypeId} {g C : Nat} {bs : List UInt8} (h : Room w1 t g C bs W) (hb : Below w0.heap.size w0 w1) : Room w0 t g C bs W :=
  ⟨h.own, h.le, h.cm, Nat.le_trans hb.size h.new, hb.trans (h.bb.mono hb.size)⟩

set_option maxHeartbeats 1000000 in
theorem wNum_any (u : Value) (bs : List UInt8) (n : Int) (hn : InR n) (w : World) (h : Bytes w u bs) (hl : bs.length ≤ 1048576) : Calls Tryd.prog 47 #[u, .int .i64 n] w fun e w' => ∃ v, e = .returned v ∧ Own w v (bs ++ numB n) w' := by
  have HN := hide hn
  have HT := hide (numB_ten hn)
  have HH := hide h
  have HL := hide hl
  clear hn h hl
  go_enter Tryd.func47, Tryd.ntmps47
  go_wp2_with fail
  refine (size_any n (unhide HN) _).mono ?_
  rintro e w1 ⟨rfl, hb1⟩
  have HB1 := hide hb1
  clear hb1
  have HH1 := hide ((unhide HH).laterW (unhide HB1))
  have HLL : Hid (bs.length + (numB n).length ≤ 1073741824) := by show _ ≤ _; have := unhide HT; have := unhide HL; omega
  go_wp2_with fail
  refine (wOwn_any u bs (numB n).length _ (unhide HH1) (unhide HLL)).mono ?_
  rintro e w2 ⟨rfl, hr⟩
  have HR := hide (hr.lift (unhide HB1))
  clear hr
  go_wp2_with fail
  refine (wPutNumber_any w _ w1.heap.size (bs.length + (numB n).length) bs n (unhide HN) _ (unhide HR) (Nat.le_refl _) (by have := unhide HL; omega)).mono ?_
  rintro e w3 ⟨rfl, hr⟩
  have HR3 := hide hr
  clear hr
  go_wp2
  go_ret
  refine ⟨_, rfl, ?_⟩
  have := (unhide HR3).isOwn
  rwa [List.length_append] at this

set_option maxHeartbeats 1000000 in
theorem wText_any (u : Value) (bs s : List UInt8) (w : World) (h : Bytes w u bs) (hl : bs.length ≤ 1048576) (hs : s.length ≤ 1048576) : Calls Tryd.prog 48 #[u, .string ⟨s.toArray⟩] w fun e w' => ∃ v, e = .returned v ∧ Own w v (bs ++ textB s) w' := by
  have hsz : (⟨s.toArray⟩ : ByteArray).size = s.length := by simp [ByteArray.size]
  obtain ⟨n, hn⟩ : ∃ n : Int, n = ((s.length : Nat) : Int) := ⟨_, rfl⟩
  have HN : Hid (InR ((s.length : Nat) : Int)) := by show InR _; unfold InR; omega
  have HT := hide (numB_ten (unhide HN))
  have HH := hide h
  have HL := hide hl
  have HS := hide hs
  have HTB : Hid (textB s = numB ((s.length : Nat) : Int) ++ s) := rfl
  clear hn h hl
  obtain ⟨i, hi, hz0, hz1, hz2⟩ := infoByte
  obtain ⟨z, hz⟩ : ∃ z : ByteArray, z = ⟨s.toArray⟩ := ⟨_, rfl⟩
  rw [← hz] at hsz ⊢
  have HZ := hide hz
  clear hz
  go_enter Tryd.func48, Tryd.ntmps48
  go_wp2_with fail
  refine (size_any _ (unhide HN) _).mono ?_
  rintro e w1 ⟨rfl, hb1⟩
  have HB1 := hide hb1
  clear hb1
  have HH1 := hide ((unhide HH).laterW (unhide HB1))
  obtain ⟨m, hm⟩ : ∃ m, m = (numB ((s.length : Nat) : Int)).length + s.length := ⟨_, rfl⟩
  have HM := hide hm
  have hmm : (((numB ((s.length : Nat) : Int)).length : Nat) : Int) + ((s.length : Nat) : Int) = ((m : Nat) : Int) := by omega
  have hm30 : ((m : Nat) : Int) ≤ 1073741824 := by have := unhide HT; omega
  have HLL : Hid (bs.length + m ≤ 1073741824) := by show _ ≤ _; have := unhide HT; have := unhide HL; omega
  clear hm
  go_wp2_with fail
  refine (wOwn_any u bs m _ (unhide HH1) (unhide HLL)).mono ?_
  rintro e w2 ⟨rfl, hr⟩
  have HR := hide (hr.lift (unhide HB1))
  clear hr
  go_wp2_with fail
  refine (wPutNumber_any w _ w1.heap.size (bs.length + m) bs _ (unhide HN) _ (unhide HR) (by have := unhide HM; omega) (by have := unhide HL; omega)).mono ?_
  rintro e w3 ⟨rfl, hr⟩
  have HC3 : Hid ((bs ++ numB ((s.length : Nat) : Int)).length + s.length ≤ bs.length + m) := by show _ ≤ _; rw [List.length_append]; have := unhide HM; omega
  obtain ⟨W', hrun, hR4, _⟩ := hr.appendS (P := Tryd.prog) s (unhide HC3) 25 9 25 5 i Tryd.underlying25 Tryd.underlying9 hi hz1
  rw [List.length_append, ← unhide HZ] at hrun
  have HR4 := hide hR4
  have HRUN := hide hrun
  clear hr hR4 hrun
  go_wp2_with (at_builtin; refine wpList_append_run rfl _ _ 25 9 rfl _ _ _ rfl rfl (unhide HRUN) ?_)
  go_wp2
  go_ret
  refine ⟨_, rfl, ?_⟩
  have := (unhide HR4).isOwn
  rw [List.length_append, List.length_append, List.append_assoc] at this
  rw [unhide HTB]
  exact this

/-- Groups joined, but for what is above 64 bits. -/
def jn64 (bs : List UInt8) : Nat := val bs % 18446744073709551616
theorem or_part (a b k : Nat) (ha : a < 2 ^ k) : a ||| (b * 2 ^ k) = a + b * 2 ^ k := by
  have := Nat.two_pow_add_eq_or_of_lt ha b
  rw [Nat.mul_comm b, Nat.or_comm, ← this, Nat.add_comm]
end Go.Proofs.YtobgmbfoofkdeaaDoor

namespace Go.Proofs.YtobgmbfoofkdeaaDoor
open Go.RowKit

/-- A row under way beside a struct in a block of its own. -/
structure Sd (w0 : World) (g : Nat) (row : Array Value) (r : Value) (bs : List UInt8) (W : World) : Prop where
  own : Own w0 r bs W
  box : W.heap[g]? = some (.cells row 24 (0, 0))
  ne : r.ownBlock ≠ some g
theorem Sd.later {w0 W W' : World} {g : Nat} {row : Array Value} {r : Value} {bs : List UInt8} (h : Sd w0 g row r bs W) (hb : Below W.heap.size W W') : Sd w0 g row r bs W' :=
  ⟨h.own.later hb, (hb.block _ (lt_rowV h.box)).trans h.box, h.ne⟩
theorem Sd.grown {w0 W W' : World} {g : Nat} {row : Array Value} {r r' : Value} {bs cs : List UInt8} (h : Sd w0 g row r bs W) (r1 : W'.ownsRow 0 5 1 r' cs.length (cs.map bv)) (r2 : W.grownBy W' r.ownBlock) (r3 : r'.ownBlock = r.ownBlock ∨ ∃ k, r'.ownBlock = some k ∧ W.heap.size ≤ k) : Sd w0 g row r' cs W' :=
  ⟨h.own.grown r1 r2 r3, (r2.block g (lt_rowV h.box) (fun e => h.ne e.symm)).trans h.box, fun e => by
    rcases r3 with e2 | ⟨k, e2, hle⟩
    · rw [e2] at e; exact h.ne e
    · rw [e2] at e; cases e; have := lt_rowV h.box; omega⟩
theorem Sd.cells {w0 W : World} {g : Nat} {v0 v1 v2 v3 : Value} {r : Value} {bs : List UInt8} (h : Sd w0 g #[v0, v1, v2, v3] r bs W) : W.cell? ⟨g, 0, none⟩ = some v0 ∧ W.cell? ⟨g, 1, none⟩ = some v1 ∧ W.cell? ⟨g, 2, none⟩ = some v2 ∧ W.cell? ⟨g, 3, none⟩ = some v3 := (cells4 h.box).1
theorem VD.bytesL_take_len (l : List VD) (j : Nat) : (VD.bytesL (l.take j)).length ≤ (VD.bytesL l).length := by
  have := VD.bytesL_append (l.take j) (l.drop j)
  rw [List.take_append_drop] at this
  rw [this, List.length_append]
  omega
theorem numNil_any (n : Int) (hn : InR n) (w : World) : Calls Tryd.prog 47 #[.slice none 0 0, .int .i64 n] w fun e w' => ∃ v, e = .returned v ∧ Own w v (numB n) w' :=
  (wNum_any _ [] n hn w ((Own.start w).fresh.1.1) (by simp)).mono fun e w' h => by simpa using h
theorem textNil_any (s : List UInt8) (hs : s.length ≤ 1048576) (w : World) : Calls Tryd.prog 48 #[.slice none 0 0, .string ⟨s.toArray⟩] w fun e w' => ∃ v, e = .returned v ∧ Own w v (textB s) w' :=
  (wText_any _ [] s w ((Own.start w).fresh.1.1) (by simp) hs).mono fun e w' h => by simpa using h

set_option maxRecDepth 100000 in
set_option maxHeartbeats 600000 in
theorem said_any (v : VD) : ∀ (B : Nat → Prop) (u r : Value) (pre : List UInt8) (w0 w : World), v.At B w0 u → Own w0 r pre w → v.kinds = true → pre.length + v.bytes.length ≤ 1000000000 →
    Calls Tryd.prog 31 #[r, u] w fun e w' => ∃ r', e = .returned r' ∧ Own w0 r' (pre ++ v.bytes) w' := by
  induction v using VD.induct with
  | h v ih =>
    intro B u r pre w0 w hA hO hkd hlen
    obtain ⟨ti, hti, hz0, hz1, hz2⟩ := infoByte
    have hfit := hA.fits
    obtain ⟨a, c, rfl, hlc, -⟩ := hA.box
    have HEL := hide hA.elems
    obtain ⟨w1, hw1⟩ : ∃ w1, w1 = w.alloc (.cells #[.int .u8 ((v.k : Nat) : Int), .int .i64 v.n, .string ⟨v.s.toArray⟩, .slice a v.l.length c] 24) := ⟨_, rfl⟩
    have hb1 : Below w.heap.size w w1 := by rw [hw1]; exact (Below.refl _ w).alloc (Nat.le_refl _) _
    have hr1 : w1.heap[w.heap.size]? = some (.cells #[.int .u8 ((v.k : Nat) : Int), .int .i64 v.n, .string ⟨v.s.toArray⟩, .slice a v.l.length c] 24 (0, 0)) := by rw [hw1]; exact heap_alloc_new w _
    have HSD : Hid (Sd w0 w.heap.size #[.int .u8 ((v.k : Nat) : Int), .int .i64 v.n, .string ⟨v.s.toArray⟩, .slice a v.l.length c] r pre w1) := ⟨hO.later hb1, hr1, fun e => by have := (hO.own.lt _ e).2; omega⟩
    have HW1 := hide hw1
    have HIH := hide ih
    have HFT := hide hfit
    have HLN := hide hlen
    obtain ⟨c0, c1, c2, c3⟩ := (unhide HSD).cells
    clear hA hO ih hfit hw1 hb1 hr1 hlen
    rcases VD.kinds_cases hkd with ⟨n, rfl⟩ | ⟨s, rfl, hs⟩ | ⟨l, rfl, hl, hkl⟩
    · simp only [VD.k, VD.n, VD.s, VD.l, List.length_nil] at HW1 HSD c0 c1 c2 c3 ⊢
      rw [show ((0 : Nat) : Int) = 0 from rfl] at HW1 HSD c0 ⊢
      have HR0 : Hid (InR 0) := by show InR _; unfold InR; omega
      have HRN : Hid (InR n) := (unhide HFT).n
      have HBD : Hid (pre ++ VD.bytes (.mk 0 n [] []) = (pre ++ numB 0) ++ numB n) := by show _ = _; rw [List.append_assoc]; rfl
      have HLL : Hid (pre.length + (numB 0).length + (numB n).length ≤ 1000000000) := by
        show _ ≤ _
        have h1 := unhide HLN
        have e : VD.bytes (.mk 0 n [] []) = numB 0 ++ numB n := rfl
        rw [e, List.length_append] at h1
        omega
      go_enter Tryd.func31, Tryd.ntmps31
      go_upto_region 1 with fail
      rw [← unhide HW1]
      clear HW1
      go_wp2_with fail
      refine (numNil_any 0 (unhide HR0) _).mono ?_
      rintro e w2 ⟨r2, rfl, hO2⟩
      have HS2 := hide ((unhide HSD).later hO2.bb)
      have HB2 := hide hO2.fresh.1.1
      clear hO2 c0 c1 c2 c3 HSD
      go_wp2_with (at_builtin; refine wpList_append_bytes _ rfl _ _ 25 rfl 5 ti (.int .u8 0) Tryd.underlying25 hti hz0 hz1 hz2 rfl _ pre rfl (unhide HS2).own.own _ (numB 0) rfl (unhide HB2) (by have := unhide HLL; omega) ?_)
      rintro v' w4 r1 r2 r3
      have HS4 := hide ((unhide HS2).grown (cs := pre ++ numB 0) (by simpa using r1) r2 r3)
      clear r1 r2 r3 HS2 HB2
      obtain ⟨c0, c1, c2, c3⟩ := (unhide HS4).cells
      go_wp2_with fail
      refine (numNil_any n (unhide HRN) _).mono ?_
      rintro e w5 ⟨r5, rfl, hO5⟩
      have HS5 := hide ((unhide HS4).later hO5.bb)
      have HB5 := hide hO5.fresh.1.1
      clear hO5 c0 c1 c2 c3 HS4
      go_wp2_with (at_builtin; refine wpList_append_bytes _ rfl _ _ 25 rfl 5 ti (.int .u8 0) Tryd.underlying25 hti hz0 hz1 hz2 rfl _ (pre ++ numB 0) rfl (unhide HS5).own.own _ (numB n) rfl (unhide HB5) (by rw [List.length_append]; have := unhide HLL; omega) ?_)
      rintro v6 w6 r1 r2 r3
      have HS6 := hide ((unhide HS5).own.grown (cs := (pre ++ numB 0) ++ numB n) (by simpa using r1) r2 r3)
      clear r1 r2 r3 HS5 HB5
      go_wp2
      go_ret
      exact ⟨_, rfl, by rw [unhide HBD]; exact unhide HS6⟩
    · simp only [VD.k, VD.n, VD.s, VD.l, List.length_nil] at HW1 HSD c0 c1 c2 c3 ⊢
      rw [show ((1 : Nat) : Int) = 1 from rfl] at HW1 HSD c0 ⊢
      have HR0 : Hid (InR 1) := by show InR _; unfold InR; omega
      have HBD : Hid (pre ++ VD.bytes (.mk 1 0 s []) = (pre ++ numB 1) ++ textB s) := by show _ = _; rw [List.append_assoc]; rfl
      have HLL : Hid (pre.length + (numB 1).length + (textB s).length ≤ 1000000000) := by
        show _ ≤ _
        have h1 := unhide HLN
        have e : VD.bytes (.mk 1 0 s []) = numB 1 ++ textB s := rfl
        rw [e, List.length_append] at h1
        omega
      have HST : Hid (∀ W, Calls Tryd.prog 48 #[.slice none 0 0, .string ⟨s.toArray⟩] W fun e w' => ∃ r, e = .returned r ∧ Own W r (textB s) w') := fun W => textNil_any s (by omega) W
      generalize (⟨s.toArray⟩ : ByteArray) = z at *
      go_enter Tryd.func31, Tryd.ntmps31
      go_upto_region 1 with fail
      rw [← unhide HW1]
      clear HW1
      go_wp2_with fail
      refine (numNil_any 1 (unhide HR0) _).mono ?_
      rintro e w2 ⟨r2, rfl, hO2⟩
      have HS2 := hide ((unhide HSD).later hO2.bb)
      have HB2 := hide hO2.fresh.1.1
      clear hO2 c0 c1 c2 c3 HSD
      go_wp2_with (at_builtin; refine wpList_append_bytes _ rfl _ _ 25 rfl 5 ti (.int .u8 0) Tryd.underlying25 hti hz0 hz1 hz2 rfl _ pre rfl (unhide HS2).own.own _ (numB 1) rfl (unhide HB2) (by have := unhide HLL; omega) ?_)
      rintro v' w4 r1 r2 r3
      have HS4 := hide ((unhide HS2).grown (cs := pre ++ numB 1) (by simpa using r1) r2 r3)
      clear r1 r2 r3 HS2 HB2
      obtain ⟨c0, c1, c2, c3⟩ := (unhide HS4).cells
      go_wp2_with fail
      refine (unhide HST _).mono ?_
      rintro e w5 ⟨r5, rfl, hO5⟩
      have HS5 := hide ((unhide HS4).later hO5.bb)
      have HB5 := hide hO5.fresh.1.1
      clear hO5 c0 c1 c2 c3 HS4
      go_wp2_with (at_builtin; refine wpList_append_bytes _ rfl _ _ 25 rfl 5 ti (.int .u8 0) Tryd.underlying25 hti hz0 hz1 hz2 rfl _ (pre ++ numB 1) rfl (unhide HS5).own.own _ (textB s) rfl (unhide HB5) (by rw [List.length_append]; have := unhide HLL; omega) ?_)
      rintro v6 w6 r1 r2 r3
      have HS6 := hide ((unhide HS5).own.grown (cs := (pre ++ numB 1) ++ textB s) (by simpa using r1) r2 r3)
      clear r1 r2 r3 HS5 HB5
      go_wp2
      go_ret
      exact ⟨_, rfl, by rw [unhide HBD]; exact unhide HS6⟩
    · simp only [VD.k, VD.n, VD.s, VD.l] at HW1 HSD c0 c1 c2 c3 HEL HIH ⊢
      rw [show ((2 : Nat) : Int) = 2 from rfl] at HW1 HSD c0 ⊢
      have HKL := hide hkl
      have HR0 : Hid (InR 2) := by show InR _; unfold InR; omega
      have HRL : Hid (InR ((l.length : Nat) : Int)) := by show InR _; unfold InR; omega
      have HBD : Hid (pre ++ VD.bytes (.mk 2 0 [] l) = (pre ++ numB 2 ++ numB ((l.length : Nat) : Int)) ++ VD.bytesL l) := by show _ = _; rw [List.append_assoc, List.append_assoc]; rfl
      have HLL : Hid (pre.length + (numB 2).length + (numB ((l.length : Nat) : Int)).length + (VD.bytesL l).length ≤ 1000000000) := by
        show _ ≤ _
        have h1 := unhide HLN
        have e : VD.bytes (.mk 2 0 [] l) = numB 2 ++ (numB ((l.length : Nat) : Int) ++ VD.bytesL l) := rfl
        rw [e, List.length_append, List.length_append] at h1
        omega
      obtain ⟨n, hn⟩ : ∃ n, n = l.length := ⟨_, rfl⟩
      rw [← hn] at HW1 HSD c3 HRL HBD HLL hl ⊢
      have HN := hide hn
      clear hn hkl
      go_enter Tryd.func31, Tryd.ntmps31
      go_upto_region 1 with fail
      rw [← unhide HW1]
      clear HW1
      go_wp2_with fail
      refine (numNil_any 2 (unhide HR0) _).mono ?_
      rintro e w2 ⟨r2, rfl, hO2⟩
      have HS2 := hide ((unhide HSD).later hO2.bb)
      have HB2 := hide hO2.fresh.1.1
      clear hO2 c0 c1 c2 c3 HSD
      go_wp2_with (at_builtin; refine wpList_append_bytes _ rfl _ _ 25 rfl 5 ti (.int .u8 0) Tryd.underlying25 hti hz0 hz1 hz2 rfl _ pre rfl (unhide HS2).own.own _ (numB 2) rfl (unhide HB2) (by have := unhide HLL; omega) ?_)
      rintro v' w4 r1 r2 r3
      have HS4 := hide ((unhide HS2).grown (cs := pre ++ numB 2) (by simpa using r1) r2 r3)
      clear r1 r2 r3 HS2 HB2
      obtain ⟨c0, c1, c2, c3⟩ := (unhide HS4).cells
      go_wp2_with fail
      refine (numNil_any _ (unhide HRL) _).mono ?_
      rintro e w5 ⟨r5, rfl, hO5⟩
      have HS5 := hide ((unhide HS4).later hO5.bb)
      have HB5 := hide hO5.fresh.1.1
      clear hO5 c0 c1 c2 c3 HS4
      go_wp2_with (at_builtin; refine wpList_append_bytes _ rfl _ _ 25 rfl 5 ti (.int .u8 0) Tryd.underlying25 hti hz0 hz1 hz2 rfl _ (pre ++ numB 2) rfl (unhide HS5).own.own _ (numB ((n : Nat) : Int)) rfl (unhide HB5) (by rw [List.length_append]; have := unhide HLL; omega) ?_)
      rintro v6 w6 r1 r2 r3
      have HS6 := hide ((unhide HS5).grown (cs := (pre ++ numB 2) ++ numB ((n : Nat) : Int)) (by simpa using r1) r2 r3)
      clear r1 r2 r3 HS5 HB5
      obtain ⟨c0, c1, c2, c3⟩ := (unhide HS6).cells
      have HO6 := hide (unhide HS6).own
      obtain ⟨Pf, hPf⟩ : ∃ Pf, Pf = pre ++ numB 2 ++ numB ((n : Nat) : Int) := ⟨_, rfl⟩
      have HPL : Hid (Pf.length + (VD.bytesL l).length ≤ 1000000000) := by show _ ≤ _; rw [hPf, List.length_append, List.length_append]; exact unhide HLL
      rw [← hPf] at HO6 HBD
      clear hPf HS6 HLL
      go_wp2
      clear c0 c1 c2 c3
      go_loopw [0, 38] (fun r k W => ∃ (j : Nat) (ra : Value), j ≤ n ∧ k = .int .i64 ((j : Nat) : Int) ∧ ra = r ∧ Own w0 ra (Pf ++ VD.bytesL (l.take j)) W) (fun _ k _ => n - (intOf k).toNat)
      case atStart => exact ⟨0, _, by omega, rfl, rfl, by simpa [VD.bytesL] using unhide HO6⟩
      case round =>
        obtain ⟨j, ra, hj, rfl, rfl, hO⟩ := hrel
        have HO := hide hO
        by_cases hlt : j < n
        · have hji : ((j : Nat) : Int) < ((n : Nat) : Int) := by omega
          have hjl : j < l.length := by have := unhide HN; omega
          obtain ⟨b, o, eK, el, ec, eN, ez, ea, rfl, _, x0, x1, x2, x3, he⟩ := (unhide HEL j hjl).out
          have hk : ∀ {p : Addr} {x : Value}, w0.cell? p = some x → wr.cell? p = some x := fun hx => (hO.bb.cell (World.block_lt_of_cell? _ _ hx)).trans hx
          have y0 := hk x0
          have y1 := hk x1
          have y2 := hk x2
          have y3 := hk x3
          have hmem : l[j] ∈ l := List.getElem_mem hjl
          have HTS : Hid (VD.bytesL (l.take (j + 1)) = VD.bytesL (l.take j) ++ (l[j]).bytes) := by
            show _ = _
            rw [List.take_succ_eq_append_getElem hjl, VD.bytesL_append]
            simp [VD.bytesL]
          have hle : (Pf ++ VD.bytesL (l.take j)).length + (l[j]).bytes.length ≤ 1000000000 := by
            have h1 := VD.bytesL_take_len l (j + 1)
            rw [unhide HTS, List.length_append] at h1
            rw [List.length_append]
            have := unhide HPL
            omega
          obtain ⟨W4, hW4⟩ : ∃ W4, W4 = wr.alloc (.cells #[.int .u8 ((eK : Nat) : Int), .int .i64 eN, .string ez, .slice ea el ec] 24) := ⟨_, rfl⟩
          have hb4 : Below wr.heap.size wr W4 := by rw [hW4]; exact (Below.refl _ _).alloc (Nat.le_refl _) _
          have hr4 : W4.heap[wr.heap.size]? = some (.cells #[.int .u8 ((eK : Nat) : Int), .int .i64 eN, .string ez, .slice ea el ec] 24 (0, 0)) := by rw [hW4]; exact heap_alloc_new wr _
          obtain ⟨⟨i0, i1, i2, i3⟩, -⟩ := cells4 hr4
          have HC : Hid (Calls Tryd.prog 31 #[ra, .agg #[.int .u8 ((eK : Nat) : Int), .int .i64 eN, .string ez, .slice ea el ec]] W4 fun e w' => ∃ r', e = .returned r' ∧ Own w0 r' ((Pf ++ VD.bytesL (l.take j)) ++ (l[j]).bytes) w') := unhide HIH _ hmem B _ ra _ w0 W4 he (hO.later hb4) (unhide HKL _ hmem) hle
          have HW4 := hide hW4
          generalize (l[j]).bytes = bj at *
          clear he hmem x0 x1 x2 x3 hk hO hb4 hr4 hW4 hle
          go_upto_region 11 with fail
          rw [← unhide HW4]
          clear HW4 y0 y1 y2 y3
          go_wp2_with fail
          refine (unhide HC).mono ?_
          rintro e w7 ⟨r7, rfl, hO7⟩
          have HO7 := hide hO7
          clear hO7 i0 i1 i2 i3
          go_wp2
          exact ⟨⟨j + 1, _, by omega, by go_num, rfl, by rw [unhide HTS, ← List.append_assoc]; exact unhide HO7⟩, by simp [intOf]; omega⟩
        · have e : j = n := by omega
          have hji : ¬ ((j : Nat) : Int) < ((n : Nat) : Int) := by omega
          have HTK : Hid (l.take j = l) := List.take_of_length_le (by have := unhide HN; omega)
          rw [unhide HTK] at HO
          clear e hO
          go_wp2
          go_ret
          exact ⟨_, rfl, by rw [unhide HBD]; exact unhide HO⟩
end Go.Proofs.YtobgmbfoofkdeaaDoor

namespace Go.Proofs.YtobgmbfoofkdeaaDoor
open Go.RowKit

theorem zeroCells_bytes (m : Nat) : (Builtin.zeroCells (Value.int .u8 0).cells m).toList = (List.replicate m (0 : UInt8)).map bv := by
  have e : (Value.int .u8 0).cells = #[.int .u8 0] := rfl
  rw [e, List.map_replicate]
  unfold Builtin.zeroCells
  apply List.ext_getElem
  · simp
  · intro j h1 h2
    simp [bv, Nat.mod_one]

theorem run_append_noughts {P : Program} (w : World) (t tn ty e : TypeId) (i : TypeInfo) (kn kq : IntKind) (ht : P.underlying t = some (.slice e)) (htn : P.underlying tn = some (.int kn)) (hi : P.info? e = some i) (hz : i.zero = some (.int .u8 0)) (hs : i.size = 1) (hb : i.bytes = 1)
    (v : Value) (xs : List UInt8) (hown : w.ownsRow 0 e 1 v xs.length (xs.map bv)) (m : Nat) (hl : xs.length + m ≤ 140737488355328) :
    ∃ v' w', (Builtin.append_ #[t, tn] ty #[v, .int kq (m : Nat)]).run P w = .ok v' w' ∧ w'.ownsRow 0 e 1 v' (xs ++ List.replicate m 0).length ((xs ++ List.replicate m 0).map bv) ∧ w.grownBy w' v.ownBlock ∧
      (v'.ownBlock = v.ownBlock ∨ ∃ k, v'.ownBlock = some k ∧ w.heap.size ≤ k) := by
  have hmx : xs.length + m ≤ maxLen := by unfold maxLen; omega
  have hw : IntKind.i64.wrap (m : Int) = m := by rw [IntKind.wrap_i64]; omega
  have hneg : ¬ ((m : Int) < 0) := by omega
  have h48i : ¬ (281474976710656 < (m : Int) * (i.bytes : Int)) := by rw [hb]; omega
  have hmap : (xs ++ List.replicate m 0).map bv = xs.map bv ++ (Builtin.zeroCells (Value.int .u8 0).cells m).toList := by rw [List.map_append, zeroCells_bytes]
  have hlen : (xs ++ List.replicate m (0 : UInt8)).length = xs.length + m := by simp
  have hzl : (Builtin.zeroCells (Value.int .u8 0).cells m).toList.length = m := by rw [zeroCells_bytes]; simp
  have hzz : (Builtin.zeroCells (Value.int .u8 0).cells m).size = m := by rw [← Array.length_toList]; exact hzl
  by_cases h0 : m = 0
  · subst h0
    refine ⟨v, w, ?_, by simpa using hown, World.grownBy.refl _ _, .inl rfl⟩
    rcases hown.2 with ⟨rfl, hn⟩ | ⟨g, cap, cur, rfl, hb0, hg, hnc, hcm, hcs, htk⟩
    · simp [Builtin.append_, run_underlying ht, run_underlying htn, sizeOf, typeInfo, hi, asInt, asIntOf, IntKind.wrap_i64]
    · simp [Builtin.append_, run_underlying ht, run_underlying htn, sizeOf, typeInfo, hi, asInt, asIntOf, IntKind.wrap_i64, hnc, storeCells]
  have grown : ∀ (old : Nat), ∀ (row : Option Nat),
      (w.drew.alloc (.cells ((xs.map bv).toArray ++ Builtin.zeroCells (Value.int .u8 0).cells m ++ Builtin.zeroCells (Value.int .u8 0).cells (grownCap w (xs.length + m) old e - (xs.length + m))) e)).ownsRow 0 e 1
        (.slice (some ⟨w.heap.size, 0, none⟩) (xs.length + m) (grownCap w (xs.length + m) old e)) (xs ++ List.replicate m 0).length ((xs ++ List.replicate m 0).map bv) ∧
      w.grownBy (w.drew.alloc (.cells ((xs.map bv).toArray ++ Builtin.zeroCells (Value.int .u8 0).cells m ++ Builtin.zeroCells (Value.int .u8 0).cells (grownCap w (xs.length + m) old e - (xs.length + m))) e)) row := by
    intro old row
    have hge := grownCap_ge w (xs.length + m) old e
    have hcm : grownCap w (xs.length + m) old e ≤ maxLen := grownCap_le_maxLen w (xs.length + m) old e hmx
    refine ⟨⟨by simp, .inr ⟨w.heap.size, _, _, by rw [hlen], Nat.zero_le _, heap_alloc_new w.drew _, by rw [hlen]; exact hge, hcm, ?_, ?_⟩⟩, ⟨rfl, rfl, rfl, by simp, fun k hk _ => heap_alloc_old w.drew _ hk⟩⟩
    · have e1 : (Value.int .u8 0).cells.size = 1 := rfl
      simp only [Array.size_append, List.size_toArray, size_zeroCells, e1, List.length_map]
      omega
    · rw [hmap, hlen]
      simp only [Array.toList_append]
      exact List.take_left' (by rw [List.length_append, hzl]; simp)
  rcases hown.2 with ⟨rfl, hn⟩ | ⟨g, cap, cur, rfl, hb0, hg, hnc, hcm, hcs, htk⟩
  · have hx : xs = [] := List.eq_nil_of_length_eq_zero hn
    subst hx
    have hr := Lib.run_append_nil_zeros (P := P) w t tn ty e i (.int .u8 0) kq kn ht htn hi hz m (by omega) (by omega) (by omega) (by rw [hb]; omega)
    have hgr := grown 0 (Value.ownBlock (.slice none 0 0))
    simp only [List.length_nil, Nat.zero_add, List.map_nil, Array.empty_append] at hgr
    refine ⟨_, _, hr, ?_, ?_, .inr ⟨_, rfl, Nat.le_refl _⟩⟩
    · exact hgr.1
    · exact hgr.2
  · by_cases hroom : xs.length + m ≤ cap
    · have hfit : xs.length * 1 + (Builtin.zeroCells (Value.int .u8 0).cells m).toList.length ≤ cur.size := by rw [hzl, hcs]; omega
      have hone : ∀ u ∈ (Builtin.zeroCells (Value.int .u8 0).cells m).toList, u.oneCell' = true := by rw [zeroCells_bytes]; exact bv_one _
      have hst := run_storeCells_at P g (xs.length * 1) e (Builtin.zeroCells (Value.int .u8 0).cells m).toList 0 cur w hg (by simpa using hfit) hone
      simp only [Nat.add_zero] at hst
      have hr : (Builtin.append_ #[t, tn] ty #[.slice (some ⟨g, 0, none⟩) xs.length cap, .int kq (m : Nat)]).run P w = .ok (.slice (some ⟨g, 0, none⟩) (xs.length + m) cap) (w.setRow g (cur.toList.take (xs.length * 1) ++ (Builtin.zeroCells (Value.int .u8 0).cells m).toList ++ cur.toList.drop (xs.length * 1 + (Builtin.zeroCells (Value.int .u8 0).cells m).toList.length)).toArray) := by
        have hns : ¬ (m * i.size = 0) := by rw [hs]; omega
        simp only [Nat.mul_one] at hst ⊢
        simp [Builtin.append_, run_underlying ht, run_underlying htn, sizeOf, typeInfo, zeroValue, hi, hz, hs, asInt, asIntOf, hw, h0, hneg, h48i, hroom, Addr.add_lit, hst]
      refine ⟨_, _, hr, ⟨by simp, .inr ⟨g, cap, _, by rw [hlen], Nat.zero_le _, setRow_heap w g cur _ e _ hg, by rw [hlen]; exact hroom, hcm, ?_, ?_⟩⟩, ⟨rfl, rfl, rfl, by simp, fun k _ hk => setRow_other w g k _ (fun e => hk (by simp [Value.ownBlock, e]))⟩, .inl rfl⟩
      · simp only [List.size_toArray, List.length_append, List.length_take, List.length_drop, Array.length_toList]
        omega
      · rw [htk, hmap, hlen]
        exact List.take_left' (by rw [List.length_append, hzl]; simp)
    · have holds : ∀ j u, (xs.map bv)[j]? = some u → w.cell? ((⟨g, 0, none⟩ : Addr).add j) = some u := hown.cells (g := g) rfl
      have hold := run_firstCells_some (P := P) w.drew i.size xs.length ⟨g, 0, none⟩ xs.length cap (xs.map bv) (by rw [hs]; simp) (by simpa using holds)
      have hr := Lib.run_append_grow_zeros (P := P) w t tn ty e i (.int .u8 0) kq kn ht htn hi hz (some ⟨g, 0, none⟩) xs.length cap (xs.map bv) hold m (by omega) (by omega) (by omega) (by omega) (by rw [hb]; omega) (by rw [hb]; exact growslice_fits (by omega) (by omega))
      have hgr := grown cap (Value.ownBlock (.slice (some ⟨g, 0, none⟩) xs.length cap))
      exact ⟨_, _, hr, hgr.1, hgr.2, .inr ⟨_, rfl, Nat.le_refl _⟩⟩

/-- In a walk. -/
theorem wpList_append_noughts {P : Program} (w : World) {ops : Array Oper} {rest : List Oper} {o : Oper} {a : Act} {Q : Exit → Act → World → Prop} (hgd : o.guard = none) (s x : Operand) (t tn : TypeId)
    (ho : o.op = .call { callee := .builtin .append, args := #[s, x], argTypes := #[t, tn] }) (e : TypeId) (i : TypeInfo) (kn kq : IntKind) (ht : P.underlying t = some (.slice e)) (htn : P.underlying tn = some (.int kn)) (hi : P.info? e = some i) (hz : i.zero = some (.int .u8 0)) (hs : i.size = 1) (hb : i.bytes = 1)
    (v : Value) (xs : List UInt8) (hsv : a.eval s = v) (hown : w.ownsRow 0 e 1 v xs.length (xs.map bv)) (m : Nat) (hx : a.eval x = .int kq (m : Nat)) (hl : xs.length + m ≤ 140737488355328)
    (h : ∀ v' w', w'.ownsRow 0 e 1 v' (xs ++ List.replicate m 0).length ((xs ++ List.replicate m 0).map bv) → w.grownBy w' v.ownBlock → (v'.ownBlock = v.ownBlock ∨ ∃ k, v'.ownBlock = some k ∧ w.heap.size ≤ k) → wpList P ops Q rest (a.put o.dst v') w') : wpList P ops Q (o :: rest) a w := by
  obtain ⟨v', w', hr, r1, r2, r3⟩ := run_append_noughts (P := P) w t tn o.type e i kn kq ht htn hi hz hs hb v xs hown m hl
  exact Lib.wpList_append_run w hgd s x t tn ho v (.int kq (m : Nat)) hsv hx v' w' hr (h v' w' r1 r2 r3)
end Go.Proofs.YtobgmbfoofkdeaaDoor
