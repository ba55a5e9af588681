/- WireImplA, WireRoom, WireImplB, WireImplC, WireImplD, WireImplE, Gen2, WireCut: our own definitions and contracts; no statement of the seat is proved here. -/
import Derived.Test.YtdlbpbglidhlfaaGreatDoorBase01
import Derived.Test.YtdlbpbglidhlfaaGreatDoorBase00
import Derived.RangeFuncNested
import Derived.RangeFuncBound
import Derived.RangeFuncCalls
import Derived.RangeFuncLeaves
import Derived.Shelf.Abstract
import Derived.Shelf.RegionOpen
import Derived.WalkKit
import Derived.OwnWalkIn
import Derived.TacticsInMore
import Derived.LoopNIn
import Derived.LoopIn
import Derived.Lib.AppendStr
import Derived.Laws.MakeOwn
namespace Go.Proofs.YtdlbpbglidhlfaaGreatDoor
open Go.RowKit Go.Shelf
attribute [local go_sem] Oper.semAt_some

theorem folded_any (n : Int) (hn : InR n) (w : World) : Calls Tryz.prog 89 #[.int .i64 n] w fun e w' => e = .returned (.int .u64 (zz n : Nat)) ∧ w' = w := by
  obtain ⟨h1, h2⟩ := hn
  by_cases h : n < 0
  · have HZ : Hid ((zz n : Int) = -2 * n - 1) := by show _ = _; unfold zz; rw [if_pos h]; omega
    go_enter Tryz.func89, Tryz.ntmps89
    go_wp2
    go_ret
    refine ⟨ret_int ?_, rfl⟩
    rw [unhide HZ]
    simp only [IntKind.wrap_u64]
    omega
  · have HZ : Hid ((zz n : Int) = 2 * n) := by show _ = _; unfold zz; rw [if_neg h]; omega
    go_enter Tryz.func89, Tryz.ntmps89
    go_wp2
    go_ret
    refine ⟨ret_int ?_, rfl⟩
    rw [unhide HZ]

theorem unfolded_any (u : Nat) (hu : u < 18446744073709551616) (w : World) : Calls Tryz.prog 104 #[.int .u64 (u : Nat)] w fun e w' => e = .returned (.int .i64 (unz u)) ∧ w' = w := by
  have HU := hide hu
  by_cases h : u % 2 = 1
  · have h' : (u : Int) % 2 = 1 := by omega
    have HZ : Hid (unz u = -((u / 2 : Nat) : Int) - 1) := by show _ = _; unfold unz; rw [if_pos h]
    go_enter Tryz.func104, Tryz.ntmps104
    go_wp2
    go_ret
    refine ⟨ret_int ?_, rfl⟩
    rw [unhide HZ]
    omega
  · have h' : ¬ (u : Int) % 2 = 1 := by omega
    have HZ : Hid (unz u = ((u / 2 : Nat) : Int)) := by show _ = _; unfold unz; rw [if_neg h]
    go_enter Tryz.func104, Tryz.ntmps104
    go_wp2
    go_ret
    refine ⟨ret_int ?_, rfl⟩
    rw [unhide HZ]
    omega

theorem isLast_any (x : Nat) (w : World) : Calls Tryz.prog 103 #[.int .u8 (x : Nat)] w fun e w' => e = .returned (.bool (decide (x < 128))) ∧ w' = w := by
  go_enter Tryz.func103, Tryz.ntmps103
  go_wp2
  go_ret
  exact ⟨ret_bool (by rw [Bool.eq_iff_iff]; simp; omega), rfl⟩

theorem groups_any (u : Nat) (w : World) :
    Calls Tryz.prog 88 #[.int .u64 (u : Nat)] w fun e w' => e = .returned (.func (.func 114) #[] #[.pointer (some ⟨w.heap.size, 0, none⟩)]) ∧ w' = w.alloc (.cells #[.int .u64 (u : Nat)] 74) := by
  go_enter Tryz.func88, Tryz.ntmps88
  go_wp2
  go_ret
  exact ⟨rfl, rfl⟩

theorem or128 (v : Nat) : bits .or .u8 128 (((v : Nat) : Int) % 256) = (((UInt8.ofNat (128 + v % 128)).toNat : Nat) : Int) := by
  have h : ∀ x : Fin 256, (128 ||| x.val) = 128 + x.val % 128 := by decide +kernel
  have h2 := u8_or_nat 128 (v % 256) (by omega) (by omega)
  have h3 := h ⟨v % 256, by omega⟩
  simp only at h3
  rw [h3] at h2
  rw [u8_toNat (by omega), show ((v : Nat) : Int) % 256 = ((v % 256 : Nat) : Int) by omega]
  refine Eq.trans h2 ?_
  omega

set_option maxRecDepth 100000 in
set_option maxHeartbeats 2000000 in
/-- The closure that tells the groups. -/
theorem groups1_in (n : Nat) (hn : 1 ≤ n) (l Bu u : Nat) (hu : u < 18446744073709551616) (J Jx : List UInt8 → World → Prop)
    (hY : ∀ pre x W, J pre W → pre.length < (grp u).length → YieldAt Fence.wide (n - 1) Tryz.prog l #[bv x] W fun e W' =>
      (e = .returned (.bool true) ∧ J (pre ++ [x]) W' ∧ True) ∨ (e = .returned (.bool false) ∧ Jx (pre ++ [x]) W'))
    (W : World) (hf : W.cell? ⟨Bu, 0, none⟩ = some (.int .u64 ((u : Nat) : Int))) (h0 : J [] W) :
    CallsIn Fence.wide n Tryz.prog 114 #[.func (.yield l) #[] #[], .pointer (some ⟨Bu, 0, none⟩)] W fun e W' => (∃ v, e = .returned v) ∧
      ((∃ ys, ys = grp u ∧ J ys W') ∨ (∃ pre, True ∧ Jx pre W')) := by
  have HY := hide hY
  clear hY
  refine callsIn_of_wp Tryz.func114 rfl trivial ?_ rfl
  simp only [Tryz.ntmps114, List.size_toArray, List.length_cons, List.length_nil, Nat.reduceAdd, Nat.reduceSub, Array.replicate_succ, Array.replicate_zero, List.push_toArray, List.append_toArray, List.nil_append, List.cons_append]
  gi_wp2
  gi_loopw [3] (fun r wr => ∃ (v : Nat) (pre : List UInt8), r = .int .u64 ((v : Nat) : Int) ∧ v ≤ u ∧ pre ++ grp v = grp u ∧ J pre wr)
    (fun r _ => (intOf r).toNat)
  case atStart => exact ⟨u, [], rfl, Nat.le_refl _, rfl, h0⟩
  case round =>
    obtain ⟨v, pre, rfl, hv, he, hJ⟩ := hrel
    have HE := hide he
    have HJ := hide hJ
    clear he hJ
    by_cases hlt : 128 ≤ v
    · have hge : ((v : Nat) : Int) ≥ 128 := by omega
      have HX := hide (or128 v)
      have HL : Hid (pre.length < (grp u).length) := by
        show _ < _
        have h1 := congrArg List.length (unhide HE)
        have := grp_pos v
        rw [List.length_append] at h1
        omega
      have HN : Hid ((pre ++ [UInt8.ofNat (128 + v % 128)]) ++ grp (v / 128) = grp u) := by
        show _ = _
        rw [← unhide HE, grp_high hlt, List.append_assoc]; rfl
      generalize UInt8.ofNat (128 + v % 128) = x at *
      obtain ⟨fn, tmps, assign, body, hy, hR⟩ := unhide HY pre x wr (unhide HJ) (unhide HL)
      have hx := unhide HX
      have hy : (Instr.yield l #[.int .u8 ((x.toNat : Nat) : Int)]).run Tryz.prog wr = .ok (.round l fn tmps assign body) wr := hy
      gi_wp2
      refine hR.mono ?_
      clear hx hy hR
      rintro e W3 (⟨rfl, hJ3, _⟩ | ⟨rfl, hJx3⟩)
      · gi_wp2
        go_roundw
        case rel => exact ⟨v / 128, _, by go_num, by omega, unhide HN, hJ3⟩
        case measure => simp [intOf]; omega
      · gi_wp2
        refine bodyPost_ret (results_none rfl _ _ _) rfl ?_
        exact ⟨⟨_, rfl⟩, .inr ⟨_, trivial, hJx3⟩⟩
    · have hge : ¬ ((v : Nat) : Int) ≥ 128 := by omega
      have HX0 : Hid (((v : Nat) : Int) = (((UInt8.ofNat v).toNat : Nat) : Int)) := by show _ = _; rw [u8_toNat (by omega)]
      have HL : Hid (pre.length < (grp u).length) := by
        show _ < _
        have h1 := congrArg List.length (unhide HE)
        have := grp_pos v
        rw [List.length_append] at h1
        omega
      have HN : Hid (pre ++ [UInt8.ofNat v] = grp u) := by
        show _ = _
        rw [← unhide HE, grp_low (by omega)]
      generalize UInt8.ofNat v = x at *
      obtain ⟨fn, tmps, assign, body, hy, hR⟩ := unhide HY pre x wr (unhide HJ) (unhide HL)
      have hy : (Instr.yield l #[.int .u8 ((v : Nat) : Int)]).run Tryz.prog wr = .ok (.round l fn tmps assign body) wr := by rw [unhide HX0]; exact hy
      gi_wp2
      refine hR.mono ?_
      clear hy hR
      rintro e W3 (⟨rfl, hJ3, _⟩ | ⟨rfl, hJx3⟩)
      · gi_wp2
        go_end0
        exact ⟨⟨_, rfl⟩, .inl ⟨_, unhide HN, hJ3⟩⟩
      · gi_wp2
        go_end0
        exact ⟨⟨_, rfl⟩, .inr ⟨_, trivial, hJx3⟩⟩

/-- The iterator's contract. -/
theorem groups_stops (n : Nat) (hn : 1 ≤ n) (Bu u : Nat) (hu : u < 18446744073709551616) (w : World) (hf : w.cell? ⟨Bu, 0, none⟩ = some (.int .u64 ((u : Nat) : Int))) :
    SeqStopsK Fence.wide n Tryz.prog 114 #[.pointer (some ⟨Bu, 0, none⟩)] (fun x : UInt8 => #[bv x]) (fun _ _ => True) (fun ys => ys = grp u) (fun _ => True) (grp u).length w := fun l J Jx W hW _ _ hY h0 =>
  groups1_in n hn l Bu u hu J Jx hY W ((hW.cell (p := ⟨Bu, 0, none⟩) (World.block_lt_of_cell? w _ hf)).trans hf) h0

theorem wboxNew (W : World) (v : Value) (t : TypeId) : (W.alloc (.cells #[v] t)).cell? ⟨W.heap.size, 0, none⟩ = some v ∧ (W.alloc (.cells #[v] t)).frozen? ⟨W.heap.size, 0, none⟩ = false := ⟨by simp, by simp⟩
theorem wboxKept {W : World} {a : Addr} {v : Value} (o : Obj) (h : W.cell? a = some v) : (W.alloc o).cell? a = some v := cell_kept h (World.grownBy_alloc W o none) (fun r e => by cases e)
theorem wboxFrozen {W : World} {a : Addr} {v : Value} (o : Obj) (h : W.cell? a = some v) (hf : W.frozen? a = false) : (W.alloc o).frozen? a = false := (frozen_kept h (World.grownBy_alloc W o none) (fun r e => by cases e)).trans hf

set_option maxRecDepth 100000 in
set_option maxHeartbeats 2000000 in
theorem size_any (n : Int) (hn : InR n) (w : World) : Calls Tryz.prog 68 #[.int .i64 n] w fun e w' => e = .returned (.int .i64 ((numB n).length : Nat)) ∧ Below w.heap.size w w' := by
  obtain ⟨w2, hw2⟩ : ∃ w2, w2 = (w.alloc (.cells #[.int .i64 0] 3)).alloc (.cells #[.int .u64 ((zz n : Nat) : Int)] 74) := ⟨_, rfl⟩
  have HB0 : Hid (Below w.heap.size w w2) := by rw [hw2]; exact ((Below.refl _ w).alloc (Nat.le_refl _) _).alloc (by simp) _
  have HSZ : Hid (w2.heap.size = w.heap.size + 2) := by rw [hw2]; show _ = _; simp
  have c0 : w2.cell? ⟨w.heap.size, 0, none⟩ = some (.int .i64 0) ∧ w2.frozen? ⟨w.heap.size, 0, none⟩ = false := by
    have c := wboxNew w (.int .i64 0) 3
    rw [hw2]
    exact ⟨wboxKept _ c.1, wboxFrozen _ c.1 c.2⟩
  have c1 : w2.cell? ⟨w.heap.size + 1, 0, none⟩ = some (.int .u64 ((zz n : Nat) : Int)) := by
    have c := wboxNew (w.alloc (.cells #[.int .i64 0] 3)) (.int .u64 ((zz n : Nat) : Int)) 74
    rw [World.size_alloc] at c
    rw [hw2]
    exact c.1
  have C0 := hide c0
  have C1 := hide c1
  have HW2 := hide hw2
  have HI := hide hn
  have HT := hide (numB_ten hn)
  clear c0 c1 hw2 hn
  refine (callsIn_wide (n := 3)).1 ?_
  refine callsIn_of_wp_marks Tryz.func68 rfl trivial ?_ rfl
  simp only [Tryz.ntmps68, List.size_toArray, List.length_cons, List.length_nil, Nat.reduceAdd, Nat.reduceSub, Array.replicate_succ, Array.replicate_zero, List.push_toArray, List.append_toArray, List.nil_append, List.cons_append]
  gi_wp2
  refine ⟨trivial, (callsIn_wide.2 (folded_any n (unhide HI) _)).mono ?_⟩
  rintro e w' ⟨rfl, rfl⟩
  gi_wp2
  refine ⟨trivial, (callsIn_wide.2 (groups_any (zz n) _)).mono ?_⟩
  rintro e w' ⟨rfl, rfl⟩
  rw [← unhide HW2]
  simp only [World.size_alloc]
  gi_wp2
  have hsz := unhide HSZ
  refine wpIn_rangeFunc_ownF rfl (by omega) (gf := 114) (lb := #[.pointer (some ⟨w.heap.size + 1, 0, none⟩)]) rfl trivial (enters_of Tryz.func114 (by kernel_rfl) rfl)
    (groups_stops (3 - 1) (by omega) (w.heap.size + 1) (zz n) (zz_lt (unhide HI)) w2 (unhide C1)) (fun _ _ => trivial) (fun _ _ _ _ _ _ _ _ => trivial) (Below.refl _ _) (fun _ => rfl)
    (fun pre W => (W.cell? ⟨w.heap.size, 0, none⟩ = some (.int .i64 ((pre.length : Nat) : Int)) ∧ W.frozen? ⟨w.heap.size, 0, none⟩ = false) ∧ Below w.heap.size w W)
    (fun _ _ _ => False)
    (OwnFrom.and (Own.from (fun s A B row hs hg hr => ⟨cell_kept hs.1 hg hr, (frozen_kept hs.1 hg hr).trans hs.2⟩) _) (ownFrom_below (Nat.le_refl _) (by omega)))
    (fun _ _ _ _ _ hs _ _ => hs)
    ⟨unhide C0, unhide HB0⟩
    (fun x => { tmps := #[.int .i64 n, undef, .int .i64 0, .pointer (some ⟨w.heap.size, 0, none⟩), .int .i64 n, .int .u64 ((zz n : Nat) : Int), .func (.func 114) #[] #[.pointer (some ⟨w.heap.size + 1, 0, none⟩)], bv x, undef, undef, undef], defers := [] }) ?assign ?body ?done ?stop
  case assign =>
    intro l x W K hK
    gi_wp2
    simpa using hK
  case body =>
    rintro l pre x W ⟨⟨hc, hf⟩, hB⟩ hN
    have hw1 : IntKind.i64.wrap (((pre.length : Nat) : Int) + 1) = ((pre.length : Nat) : Int) + 1 := by rw [IntKind.wrap_i64]; have := unhide HT; have hN : pre.length < (numB n).length := hN; omega
    gi_wp2
    exact ⟨KeepsOthers.setCell _ _ _, trivial, ⟨by rw [List.length_append]; exact World.cell?_setCell_same' _ _ _ (by rw [hc]; rfl), by rw [World.frozen?_setCell]; exact hf⟩, hB.setCell (p := ⟨w.heap.size, 0, none⟩) (Nat.le_refl _) _⟩
  case done =>
    rintro D ys W hD rfl ⟨⟨hc, _⟩, hB⟩ hK
    have HB := hide hB
    clear hB
    gi_wp2
    refine ⟨by simp, .inl ⟨_, _, rfl, run_takeDeferred hK, ?_⟩⟩
    refine ⟨_, results_tmp rfl _ _ _, ?_⟩
    exact ⟨rfl, (unhide HB).trans (belowK_b (w := w) (Nat.le_refl _) W D _ _ (by omega) hK rfl rfl)⟩
  case stop =>
    rintro D c pre W _ _ h _
    exact h.elim
end Go.Proofs.YtdlbpbglidhlfaaGreatDoor

namespace Go.Proofs.YtdlbpbglidhlfaaGreatDoor
open Go.RowKit Go.Lib

/-- Block g, of type t, holds C cells, the first of which are bs; it is new since w0. -/
structure Room (w0 : World) (t : TypeId) (g C : Nat) (bs : List UInt8) (W : World) : Prop where
  own : ∃ cur : Array Value, W.heap[g]? = some (.cells cur t (0, 0)) ∧ cur.size = C ∧ cur.toList.take bs.length = bs.map bv
  le : bs.length ≤ C
  cm : C ≤ maxLen
  new : w0.heap.size ≤ g
  bb : Below w0.heap.size w0 W
section
variable {w0 W W' : World} {t : TypeId} {g C : Nat} {bs : List UInt8}
theorem Room.to (h : Room w0 t g C bs W) (hb : Below w0.heap.size w0 W') (hk : W'.heap[g]? = W.heap[g]?) : Room w0 t g C bs W' := by
  obtain ⟨⟨cur, h1, h2, h3⟩, h4, h5, h6, _⟩ := h
  exact ⟨⟨cur, hk.trans h1, h2, h3⟩, h4, h5, h6, hb⟩
theorem Room.lt (h : Room w0 t g C bs W) : g < W.heap.size := by
  obtain ⟨cur, h1, _⟩ := h.own
  exact (Array.getElem?_eq_some_iff.1 h1).1
theorem Room.later (h : Room w0 t g C bs W) (hb : Below W.heap.size W W') : Room w0 t g C bs W' := h.to (h.bb.trans (hb.mono h.bb.size)) (hb.block g h.lt)
theorem Room.alloc (h : Room w0 t g C bs W) (o : Obj) : Room w0 t g C bs (W.alloc o) := h.later ((Below.refl _ W).alloc (Nat.le_refl _) _)
theorem Room.drewN (h : Room w0 t g C bs W) (n : Nat) : Room w0 t g C bs (W.drewN n) := h.to ⟨h.bb.os, h.bb.tape, h.bb.output, h.bb.size, h.bb.block⟩ rfl
theorem Room.drew (h : Room w0 t g C bs W) : Room w0 t g C bs W.drew := h.to h.bb.drew rfl
theorem Room.set (h : Room w0 t g C bs W) {p : Addr} (hp : p.block ≠ g) (hn : w0.heap.size ≤ p.block) (v : Value) : Room w0 t g C bs (W.setCell p v) := h.to (h.bb.setCell hn v) (Below.heap_setCell _ _ _ _ (fun e => hp e.symm))
/-- A row of our own has room. -/
theorem Room.of_own {cap n : Nat} (h : Own w0 (.slice (some ⟨g, 0, none⟩) n cap) bs W) (_ : bs.length = n) : Room w0 5 g cap bs W := by
  rcases h.own.2 with ⟨e, _⟩ | ⟨g', cap', cur, e, _, h1, h2, h3, h4, h5⟩
  · cases e
  · simp only [Value.slice.injEq, Option.some.injEq, Addr.mk.injEq, and_true] at e
    obtain ⟨rfl, _, rfl⟩ := e
    exact ⟨⟨cur, h1, by simpa using h4, by simpa using h5⟩, h2, h3, h.new g rfl, h.bb⟩
theorem Room.isOwn (h : Room w0 5 g C bs W) : Own w0 (.slice (some ⟨g, 0, none⟩) bs.length C) bs W := by
  obtain ⟨cur, h1, h2, h3⟩ := h.own
  exact ⟨⟨by simp, .inr ⟨g, C, cur, rfl, Nat.zero_le _, h1, h.le, h.cm, by simpa using h2, by simpa using h3⟩⟩, fun k hk => by simp [Value.ownBlock] at hk; subst hk; exact h.new, h.bb⟩
theorem Room.bytes (h : Room w0 t g C bs W) : Bytes W (.slice (some ⟨g, 0, none⟩) bs.length C) bs := by
  obtain ⟨cur, h1, h2, h3⟩ := h.own
  refine .inr ⟨⟨g, 0, none⟩, C, rfl, h.le, h.cm, fun j x hx => ?_⟩
  rw [Addr.add_mid, Nat.zero_add, cell_of_row _ _ _ _ _ _ h1]
  rw [← h3, List.getElem?_take] at hx
  split at hx
  · simpa using hx
  · cases hx

/-- append into the room. -/
theorem Room.append {P : Program} (h : Room w0 t g C bs W) {u : Value} {xs : List UInt8} (hu : Bytes W u xs) (hroom : bs.length + xs.length ≤ C) (tt ty e : TypeId) (i : TypeInfo) (ht : P.underlying tt = some (.slice e)) (hi : P.info? e = some i) (hs : i.size = 1) :
    ∃ W', (Builtin.append_ #[tt, tt] ty #[.slice (some ⟨g, 0, none⟩) bs.length C, u]).run P W = .ok (.slice (some ⟨g, 0, none⟩) (bs.length + xs.length) C) W' ∧ Room w0 t g C (bs ++ xs) W' ∧ W.grownBy W' (some g) := by
  obtain ⟨⟨cur, h1, h2, h3⟩, h4, h5, h6, hb⟩ := h
  rcases hu with ⟨rfl, rfl⟩ | ⟨ad, c, rfl, _, _, hr⟩
  · refine ⟨W, ?_, by rw [List.append_nil]; exact ⟨⟨cur, h1, h2, h3⟩, h4, h5, h6, hb⟩, World.grownBy.refl _ _⟩
    have hf : (Builtin.firstCells 1 0 (.slice none 0 0)).run P W = .ok #[] W := by simp [Builtin.firstCells, go_sem]
    simp [Builtin.append_, run_underlying ht, sizeOf, typeInfo, hi, hs, Builtin.lenOf, h4, hf, storeCells, Sem.run_pure]
  · have hn1 : (xs.map bv).length = xs.length * i.size := by simp [hs]
    have hf := run_firstCells_some (P := P) W i.size xs.length ad xs.length c (xs.map bv) hn1 hr
    have hst := run_storeCells_at P g (bs.length * i.size) t (xs.map bv) 0 cur W h1 (by simp [hs]; omega) (bv_one _)
    simp only [Nat.add_zero] at hst
    refine ⟨W.setRow g (cur.toList.take (bs.length * i.size) ++ xs.map bv ++ cur.toList.drop (bs.length * i.size + (xs.map bv).length)).toArray, ?_, ⟨⟨_, setRow_heap W g cur _ t _ h1, ?_, ?_⟩, by simpa using hroom, h5, h6, ?_⟩, ⟨rfl, rfl, rfl, by simp, fun k _ hk => setRow_other W g k _ (fun e => hk (by simp [e]))⟩⟩
    · simp [Builtin.append_, run_underlying ht, sizeOf, typeInfo, hi, Builtin.lenOf, hroom, hf, Addr.add_lit, hst]
    · simp only [List.size_toArray, List.length_append, List.length_take, List.length_drop, Array.length_toList, List.length_map, hs]
      omega
    · simp only [hs, Nat.mul_one, h3]
      rw [show (bs ++ xs).length = (bs.map bv ++ xs.map bv).length by simp, List.map_append]
      exact List.take_left
    · exact hb.trans ⟨rfl, rfl, rfl, by simp, fun k hk => setRow_other W g k _ (by omega)⟩
/-- append of a text into the room. -/
theorem Room.appendS {P : Program} (h : Room w0 t g C bs W) (s : List UInt8) (hroom : bs.length + s.length ≤ C) (tt u ty e : TypeId) (i : TypeInfo) (ht : P.underlying tt = some (.slice e)) (hu : P.underlying u = some .string) (hi : P.info? e = some i) (hs : i.size = 1) :
    ∃ W', (Builtin.append_ #[tt, u] ty #[.slice (some ⟨g, 0, none⟩) bs.length C, .string ⟨s.toArray⟩]).run P W = .ok (.slice (some ⟨g, 0, none⟩) (bs.length + s.length) C) W' ∧ Room w0 t g C (bs ++ s) W' ∧ W.grownBy W' (some g) := by
  obtain ⟨⟨cur, h1, h2, h3⟩, h4, h5, h6, hb⟩ := h
  have hsz : (⟨s.toArray⟩ : ByteArray).size = s.length := by simp [ByteArray.size]
  have hc : strCells ⟨s.toArray⟩ = s.map bv := by simp [strCells, bv]
  have hf := run_firstCells_string (P := P) W 1 ⟨s.toArray⟩
  have hst := run_storeCells_at P g bs.length t (s.map bv) 0 cur W h1 (by simp; omega) (bv_one _)
  simp only [Nat.add_zero] at hst
  rw [hc, hsz] at hf
  refine ⟨W.setRow g (cur.toList.take bs.length ++ s.map bv ++ cur.toList.drop (bs.length + (s.map bv).length)).toArray, ?_, ⟨⟨_, setRow_heap W g cur _ t _ h1, ?_, ?_⟩, by simpa using hroom, h5, h6, ?_⟩, ⟨rfl, rfl, rfl, by simp, fun k _ hk => setRow_other W g k _ (fun e => hk (by simp [e]))⟩⟩
  · simp [Builtin.append_, run_underlying ht, run_underlying hu, sizeOf, typeInfo, hi, hs, Builtin.lenOf, hroom, hf, hsz, Addr.add_lit, hst]
  · simp only [List.size_toArray, List.length_append, List.length_take, List.length_drop, Array.length_toList, List.length_map]
    omega
  · rw [h3, show (bs ++ s).length = (bs.map bv ++ s.map bv).length by simp, List.map_append]
    exact List.take_left
  · exact hb.trans ⟨rfl, rfl, rfl, by simp, fun k hk => setRow_other W g k _ (by omega)⟩
end

/-- append with its run laid, at the walk's list of operations inside a fence. -/
theorem wpListIn_append_run {F : Fence} {n : Nat} {P : Program} {w W' : World} {ops : Array Oper} {rest : List Oper} {o : Oper} {a : Act} {Q : Exit → Act → World → Prop}
    (hg : o.guard = none) (s x : Operand) (t u : TypeId) (hop : o.op = Op.call { callee := Callee.builtin Builtin.append, args := #[s, x], argTypes := #[t, u] }) (sv xv v : Value) (hs : a.eval s = sv) (hx : a.eval x = xv)
    (hrun : (Builtin.append_ #[t, u] o.type #[sv, xv]).run P w = .ok v W') (hK : wpListIn F n P ops Q rest (a.put o.dst v) W') : wpListIn F n P ops Q (o :: rest) a w := by
  refine wpListIn_plain hg fun K hK' => ?_
  unfold Oper.wpIn
  refine ⟨?_, ?_⟩
  · simp [Oper.about, hop, resolve, Target.leads, Sem.run_pure]
  · rw [Oper.semAt_plain F _ _ (by rw [hop]; intro c hc'; cases hc')]
    simp [execOp, hop, resolve, invoke, builtin, hs, hx, hrun, Result.andThen]
    exact hK' _ _ hK
theorem wpList_append_run {P : Program} {w W' : World} {ops : Array Oper} {rest : List Oper} {o : Oper} {a : Act} {Q : Exit → Act → World → Prop}
    (hg : o.guard = none) (s x : Operand) (t u : TypeId) (hop : o.op = Op.call { callee := Callee.builtin Builtin.append, args := #[s, x], argTypes := #[t, u] }) (sv xv v : Value) (hs : a.eval s = sv) (hx : a.eval x = xv)
    (hrun : (Builtin.append_ #[t, u] o.type #[sv, xv]).run P w = .ok v W') (hK : wpList P ops Q rest (a.put o.dst v) W') : wpList P ops Q (o :: rest) a w := by
  refine wpList_plain hg fun K hK' => ?_
  unfold Oper.wp
  simp [execOp, hop, resolve, invoke, builtin, hs, hx, hrun, Result.andThen]
  exact hK' _ _ hK

/-- make of no bytes, with room. -/
theorem wMakeRoom (n : Nat) (hn : n ≤ 1073741824) : ∃ Z : Array Value, Z.size = n ∧ ∀ W : World, (Instr.makeSlice 28 (.int .i64 0) (.int .i64 (n : Int))).run Tryz.prog W = .ok (.slice (some ⟨W.heap.size, 0, none⟩) 0 n) (W.alloc (.cells Z 5)) := by
  obtain ⟨i, hi, hz0, hz1, hz2⟩ := infoByte
  refine ⟨madeCells (Value.int .u8 0).cells (Int.toNat n * i.size), ?_, fun W => ?_⟩
  · rw [size_madeCells, hz1]; simp
  · have := run_make (P := Tryz.prog) W 28 5 i (.int .u8 0) Tryz.underlying28 hi hz0 .i64 .i64 0 n (by omega) (by omega) (by rw [hz2]; omega) (by omega)
    simpa using this
theorem Room.made (w : World) {n : Nat} {Z : Array Value} (hZ : Z.size = n) (hn : n ≤ 1073741824) : Room w 5 w.heap.size n [] (w.alloc (.cells Z 5)) :=
  ⟨⟨Z, heap_alloc_new w _, hZ, by simp⟩, Nat.zero_le _, by unfold maxLen; omega, Nat.le_refl _, (Below.refl _ w).alloc (Nat.le_refl _) _⟩
end Go.Proofs.YtdlbpbglidhlfaaGreatDoor

namespace Go.Proofs.YtdlbpbglidhlfaaGreatDoor
open Go.RowKit Go.Shelf Go.Lib
attribute [local go_sem] Oper.semAt_some

theorem Room.own_from {w0 : World} {t : TypeId} {g C B : Nat} {β : Type} (hB : w0.heap.size ≤ B) (f : β → List UInt8) : OwnFrom B (fun (s : β) W => Room w0 t g C (f s) W) := fun s X Y row h hg hr =>
  h.to (h.bb.grown hg h.bb.size fun k e => Nat.le_trans hB (hr k e).1) (hg.block g h.lt fun e => by
    obtain ⟨_, o, ho, hc⟩ := hr g e.symm
    obtain ⟨cur, h1, _⟩ := h.own
    rw [h1] at ho
    cases ho
    cases hc)

set_option maxHeartbeats 1000000 in
/-- Bytes in memory of their own, with room. -/
theorem wOwn_any (u : Value) (bs : List UInt8) (n : Nat) (w : World) (h : Bytes w u bs) (hl : bs.length + n ≤ 1073741824) : Calls Tryz.prog 67 #[u, .int .i64 (n : Int)] w fun e w' => e = .returned (.slice (some ⟨w.heap.size, 0, none⟩) bs.length (bs.length + n)) ∧ Room w 5 w.heap.size (bs.length + n) bs w' := by
  obtain ⟨a, c, rfl, hlc⟩ := h.form
  obtain ⟨k, hk⟩ : ∃ k, k = bs.length := ⟨_, rfl⟩
  rw [← hk] at h hlc hl ⊢
  obtain ⟨m, hm⟩ : ∃ m, m = k + n := ⟨_, rfl⟩
  have hmm : ((k : Nat) : Int) + ((n : Nat) : Int) = ((m : Nat) : Int) := by omega
  rw [← hm] at hl ⊢
  have hm30 : ((m : Nat) : Int) ≤ 1073741824 := by omega
  have hkm : k ≤ m := by omega
  obtain ⟨Z, hZ, hrun⟩ := wMakeRoom m hl
  have hR := Room.made w hZ hl
  obtain ⟨i, hi, hz0, hz1, hz2⟩ := infoByte
  obtain ⟨W', hr, hR', _⟩ := hR.append (P := Tryz.prog) (h.alloc (.cells Z 5)) (by rw [← hk]; simp; exact hkm) 28 28 5 i Tryz.underlying28 hi hz1
  simp only [List.length_nil, Nat.zero_add, List.nil_append, ← hk] at hr hR'
  have HR := hide hR'
  have HH := hide hr
  clear hR hR' hr hk h hlc hm hl
  go_enter Tryz.func67, Tryz.ntmps67
  go_wp2_with (at_builtin; refine wpList_append_run rfl _ _ 28 28 rfl _ _ _ rfl rfl (unhide HH) ?_)
  go_wp2
  go_ret
  exact ⟨rfl, unhide HR⟩

set_option maxRecDepth 100000 in
set_option maxHeartbeats 2000000 in
/-- A number's bytes are put behind bytes that have room. -/
theorem wPutNumber_any (w0 : World) (t : TypeId) (g C : Nat) (bs : List UInt8) (n : Int) (hn : InR n) (w : World) (h : Room w0 t g C bs w) (hroom : bs.length + (numB n).length ≤ C) (hl : bs.length ≤ 1073741824) :
    Calls Tryz.prog 66 #[.slice (some ⟨g, 0, none⟩) bs.length C, .int .i64 n] w fun e w' => e = .returned (.slice (some ⟨g, 0, none⟩) (bs.length + (numB n).length) C) ∧ Room w0 t g C (bs ++ numB n) w' := by
  obtain ⟨k, hk⟩ : ∃ k, k = bs.length := ⟨_, rfl⟩
  rw [← hk] at hroom hl ⊢
  obtain ⟨w2, hw2⟩ : ∃ w2, w2 = (w.alloc (.cells #[.slice (some ⟨g, 0, none⟩) k C] 28)).alloc (.cells #[.int .u64 ((zz n : Nat) : Int)] 74) := ⟨_, rfl⟩
  have HR2 : Hid (Room w0 t g C bs w2) := by rw [hw2]; exact (h.alloc _).alloc _
  have HSZ : Hid (w2.heap.size = w.heap.size + 2) := by rw [hw2]; show _ = _; simp
  have c0 : w2.cell? ⟨w.heap.size, 0, none⟩ = some (.slice (some ⟨g, 0, none⟩) k C) ∧ w2.frozen? ⟨w.heap.size, 0, none⟩ = false := by
    have c := wboxNew w (.slice (some ⟨g, 0, none⟩) k C) 28
    rw [hw2]
    exact ⟨wboxKept _ c.1, wboxFrozen _ c.1 c.2⟩
  have c1 : w2.cell? ⟨w.heap.size + 1, 0, none⟩ = some (.int .u64 ((zz n : Nat) : Int)) := by
    have c := wboxNew (w.alloc (.cells #[.slice (some ⟨g, 0, none⟩) k C] 28)) (.int .u64 ((zz n : Nat) : Int)) 74
    rw [World.size_alloc] at c
    rw [hw2]
    exact c.1
  have hgw := h.lt
  have h0w := h.new
  have HG := hide hgw
  have H0 := hide h0w
  have C0 := hide c0
  have C1 := hide c1
  have HW2 := hide hw2
  have HI := hide hn
  have HT := hide (numB_ten hn)
  have HK := hide hk
  have HRM := hide hroom
  have HL := hide hl
  clear c0 c1 hw2 hn h hk hroom hl hgw h0w
  refine (callsIn_wide (n := 3)).1 ?_
  refine callsIn_of_wp_marks Tryz.func66 rfl trivial ?_ rfl
  simp only [Tryz.ntmps66, List.size_toArray, List.length_cons, List.length_nil, Nat.reduceAdd, Nat.reduceSub, Array.replicate_succ, Array.replicate_zero, List.push_toArray, List.append_toArray, List.nil_append, List.cons_append]
  gi_wp2
  refine ⟨trivial, (callsIn_wide.2 (folded_any n (unhide HI) _)).mono ?_⟩
  rintro e w' ⟨rfl, rfl⟩
  gi_wp2
  refine ⟨trivial, (callsIn_wide.2 (groups_any (zz n) _)).mono ?_⟩
  rintro e w' ⟨rfl, rfl⟩
  rw [← unhide HW2]
  simp only [World.size_alloc]
  gi_wp2
  have hsz := unhide HSZ
  have hgw := unhide HG
  have h0w := unhide H0
  refine wpIn_rangeFunc_ownF rfl (by omega) (gf := 114) (lb := #[.pointer (some ⟨w.heap.size + 1, 0, none⟩)]) rfl trivial (enters_of Tryz.func114 (by kernel_rfl) rfl)
    (groups_stops (3 - 1) (by omega) (w.heap.size + 1) (zz n) (zz_lt (unhide HI)) w2 (unhide C1)) (fun _ _ => trivial) (fun _ _ _ _ _ _ _ _ => trivial) (Below.refl _ _) (fun _ => rfl)
    (fun pre W => (W.cell? ⟨w.heap.size, 0, none⟩ = some (.slice (some ⟨g, 0, none⟩) (k + pre.length) C) ∧ W.frozen? ⟨w.heap.size, 0, none⟩ = false) ∧ Room w0 t g C (bs ++ pre) W)
    (fun _ _ _ => False)
    (OwnFrom.and (Own.from (fun s A B row hs hg hr => ⟨cell_kept hs.1 hg hr, (frozen_kept hs.1 hg hr).trans hs.2⟩) _) (Room.own_from (by omega) _))
    (fun _ _ _ _ _ hs _ _ => hs)
    ⟨unhide C0, by rw [List.append_nil]; exact unhide HR2⟩
    (fun x => { tmps := #[.slice (some ⟨g, 0, none⟩) k C, .int .i64 n, .pointer (some ⟨w.heap.size, 0, none⟩), undef, .slice none 0 0, .int .u8 ((x.toNat : Nat) : Int), .int .i64 n, .int .u64 ((zz n : Nat) : Int), .func (.func 114) #[] #[.pointer (some ⟨w.heap.size + 1, 0, none⟩)], .int .u8 ((x.toNat : Nat) : Int), undef, undef, undef, undef, undef], defers := [] }) ?assign ?body ?done ?stop
  case assign =>
    intro l x W K hK
    gi_wp2
    simpa [bv] using hK
  case body =>
    rintro l pre x W ⟨⟨hc, hf⟩, hR⟩ hN
    obtain ⟨i, hi, hz0, hz1, hz2⟩ := infoByte
    have hlen : (bs ++ pre).length = k + pre.length := by rw [List.length_append, ← unhide HK]
    have hNN : pre.length < (numB n).length := hN
    obtain ⟨W', hr, hR', hg⟩ := (hR.alloc (.cells #[.int .u8 (x.toNat : Nat)] 5)).append (P := Tryz.prog) (bytes_one W x) (by rw [hlen]; have := unhide HRM; simp; omega) 28 28 5 i Tryz.underlying28 hi hz1
    have hBN : w.heap.size < W.heap.size := World.block_lt_of_cell? W ⟨w.heap.size, 0, none⟩ hc
    have hcA := wboxKept (.cells #[.int .u8 (x.toNat : Nat)] 5) hc
    have hfA := wboxFrozen (.cells #[.int .u8 (x.toNat : Nat)] 5) hc hf
    have hgb : W'.heap[w.heap.size]? = (W.alloc (.cells #[.int .u8 (x.toNat : Nat)] 5)).heap[w.heap.size]? := hg.block _ (by simp; omega) (by simp; omega)
    have hc1 : W'.cell? ⟨w.heap.size, 0, none⟩ = some (.slice (some ⟨g, 0, none⟩) (k + pre.length) C) := (World.cell?_of_block (a := ⟨w.heap.size, 0, none⟩) hgb).trans hcA
    have hf1 : W'.frozen? ⟨w.heap.size, 0, none⟩ = false := (World.frozen?_of_block (a := ⟨w.heap.size, 0, none⟩) hgb).trans hfA
    have HKO : Hid (KeepsOthers W W') := (KeepsOthers.alloc _ _).trans (KeepsOthers.of_grownBy hg fun j o e ho => by
      cases e
      obtain ⟨cur, h1, _⟩ := (hR.alloc (.cells #[.int .u8 (x.toNat : Nat)] 5)).own
      rw [h1] at ho
      cases ho
      rfl)
    simp only [List.length_singleton, hlen] at hr
    have HR := hide hR'
    have HRN := hide hr
    have HBW := hide hR'.lt
    clear hR hR' hr hg hcA hfA hgb hlen
    gi_wp2_with (gi_at_builtin; refine wpListIn_append_run rfl _ _ 28 28 rfl _ _ _ rfl rfl (unhide HRN) ?_)
    gi_wp2
    show KeepsOthers W (W'.setCell ⟨w.heap.size, 0, none⟩ _) ∧ True ∧ (_ ∧ _) ∧ _
    refine ⟨(unhide HKO).trans (KeepsOthers.setCell _ _ _), trivial, ⟨?_, ?_⟩, ?_⟩
    · rw [List.length_append, ← Nat.add_assoc]; exact World.cell?_setCell_same' _ _ _ (by rw [hc1]; rfl)
    · rw [World.frozen?_setCell]; exact hf1
    · rw [← List.append_assoc]; exact (unhide HR).set (by show w.heap.size ≠ g; omega) (by show w0.heap.size ≤ w.heap.size; omega) _
  case done =>
    rintro D ys W hD rfl ⟨⟨hc, _⟩, hR⟩ hK
    have HR := hide hR
    clear hR
    have HLN : Hid (k + (grp (zz n)).length = k + (numB n).length) := rfl
    gi_wp2
    refine ⟨by simp, .inl ⟨_, _, rfl, run_takeDeferred hK, ?_⟩⟩
    refine ⟨_, results_tmp rfl _ _ _, ?_⟩
    exact ⟨rfl, (unhide HR).to ((unhide HR).bb.trans (belowK_b (w := w2) (by omega) W D _ _ (by omega) hK rfl rfl)) (World.putObj_heap_other (by omega))⟩
  case stop =>
    rintro D c pre W _ _ h _
    exact h.elim
end Go.Proofs.YtdlbpbglidhlfaaGreatDoor

namespace Go.Proofs.YtdlbpbglidhlfaaGreatDoor
open Go.RowKit Go.Shelf Go.Lib

theorem Bytes.laterW {w w' : World} {u : Value} {bs : List UInt8} (h : Bytes w u bs) (hb : Below w.heap.size w w') : Bytes w' u bs := h.kept fun k _ hk => hb.block k hk
theorem Room.lift {w0 w1 W : World} {t : TypeId} {g C : Nat} {bs : List UInt8} (h : Room w1 t g C bs W) (hb : Below w0.heap.size w0 w1) : Room w0 t g C bs W :=
  ⟨h.own, h.le, h.cm, Nat.le_trans hb.size h.new, hb.trans (h.bb.mono hb.size)⟩

set_option maxHeartbeats 1000000 in
theorem wNum_any (u : Value) (bs : List UInt8) (n : Int) (hn : InR n) (w : World) (h : Bytes w u bs) (hl : bs.length ≤ 1048576) : Calls Tryz.prog 43 #[u, .int .i64 n] w fun e w' => ∃ v, e = .returned v ∧ Own w v (bs ++ numB n) w' := by
  have HN := hide hn
  have HT := hide (numB_ten hn)
  have HH := hide h
  have HL := hide hl
  clear hn h hl
  go_enter Tryz.func43, Tryz.ntmps43
  go_wp2_with fail
  refine (size_any n (unhide HN) _).mono ?_
  rintro e w1 ⟨rfl, hb1⟩
  have HB1 := hide hb1
  clear hb1
  have HH1 := hide ((unhide HH).laterW (unhide HB1))
  have HLL : Hid (bs.length + (numB n).length ≤ 1073741824) := by show _ ≤ _; have := unhide HT; have := unhide HL; omega
  go_wp2_with fail
  refine (wOwn_any u bs (numB n).length _ (unhide HH1) (unhide HLL)).mono ?_
  rintro e w2 ⟨rfl, hr⟩
  have HR := hide (hr.lift (unhide HB1))
  clear hr
  go_wp2_with fail
  refine (wPutNumber_any w _ w1.heap.size (bs.length + (numB n).length) bs n (unhide HN) _ (unhide HR) (Nat.le_refl _) (by have := unhide HL; omega)).mono ?_
  rintro e w3 ⟨rfl, hr⟩
  have HR3 := hide hr
  clear hr
  go_wp2
  go_ret
  refine ⟨_, rfl, ?_⟩
  have := (unhide HR3).isOwn
  rwa [List.length_append] at this

set_option maxHeartbeats 1000000 in
theorem wText_any (u : Value) (bs s : List UInt8) (w : World) (h : Bytes w u bs) (hl : bs.length ≤ 1048576) (hs : s.length ≤ 1048576) : Calls Tryz.prog 44 #[u, .string ⟨s.toArray⟩] w fun e w' => ∃ v, e = .returned v ∧ Own w v (bs ++ textB s) w' := by
  have hsz : (⟨s.toArray⟩ : ByteArray).size = s.length := by simp [ByteArray.size]
  obtain ⟨n, hn⟩ : ∃ n : Int, n = ((s.length : Nat) : Int) := ⟨_, rfl⟩
  have HN : Hid (InR ((s.length : Nat) : Int)) := by show InR _; unfold InR; omega
  have HT := hide (numB_ten (unhide HN))
  have HH := hide h
  have HL := hide hl
  have HS := hide hs
  have HTB : Hid (textB s = numB ((s.length : Nat) : Int) ++ s) := rfl
  clear hn h hl
  obtain ⟨i, hi, hz0, hz1, hz2⟩ := infoByte
  obtain ⟨z, hz⟩ : ∃ z : ByteArray, z = ⟨s.toArray⟩ := ⟨_, rfl⟩
  rw [← hz] at hsz ⊢
  have HZ := hide hz
  clear hz
  go_enter Tryz.func44, Tryz.ntmps44
  go_wp2_with fail
  refine (size_any _ (unhide HN) _).mono ?_
  rintro e w1 ⟨rfl, hb1⟩
  have HB1 := hide hb1
  clear hb1
  have HH1 := hide ((unhide HH).laterW (unhide HB1))
  obtain ⟨m, hm⟩ : ∃ m, m = (numB ((s.length : Nat) : Int)).length + s.length := ⟨_, rfl⟩
  have HM := hide hm
  have hmm : (((numB ((s.length : Nat) : Int)).length : Nat) : Int) + ((s.length : Nat) : Int) = ((m : Nat) : Int) := by omega
  have hm30 : ((m : Nat) : Int) ≤ 1073741824 := by have := unhide HT; omega
  have HLL : Hid (bs.length + m ≤ 1073741824) := by show _ ≤ _; have := unhide HT; have := unhide HL; omega
  clear hm
  go_wp2_with fail
  refine (wOwn_any u bs m _ (unhide HH1) (unhide HLL)).mono ?_
  rintro e w2 ⟨rfl, hr⟩
  have HR := hide (hr.lift (unhide HB1))
  clear hr
  go_wp2_with fail
  refine (wPutNumber_any w _ w1.heap.size (bs.length + m) bs _ (unhide HN) _ (unhide HR) (by have := unhide HM; omega) (by have := unhide HL; omega)).mono ?_
  rintro e w3 ⟨rfl, hr⟩
  have HC3 : Hid ((bs ++ numB ((s.length : Nat) : Int)).length + s.length ≤ bs.length + m) := by show _ ≤ _; rw [List.length_append]; have := unhide HM; omega
  obtain ⟨W', hrun, hR4, _⟩ := hr.appendS (P := Tryz.prog) s (unhide HC3) 28 9 28 5 i Tryz.underlying28 Tryz.underlying9 hi hz1
  rw [List.length_append, ← unhide HZ] at hrun
  have HR4 := hide hR4
  have HRUN := hide hrun
  clear hr hR4 hrun
  go_wp2_with (at_builtin; refine wpList_append_run rfl _ _ 28 9 rfl _ _ _ rfl rfl (unhide HRUN) ?_)
  go_wp2
  go_ret
  refine ⟨_, rfl, ?_⟩
  have := (unhide HR4).isOwn
  rw [List.length_append, List.length_append, List.append_assoc] at this
  rw [unhide HTB]
  exact this

/-- Groups joined, but for what is above 64 bits. -/
def jn64 (bs : List UInt8) : Nat := val bs % 18446744073709551616
theorem or_part (a b k : Nat) (ha : a < 2 ^ k) : a ||| (b * 2 ^ k) = a + b * 2 ^ k := by
  have := Nat.two_pow_add_eq_or_of_lt ha b
  rw [Nat.mul_comm b, Nat.or_comm, ← this, Nat.add_comm]
end Go.Proofs.YtdlbpbglidhlfaaGreatDoor

namespace Go.Proofs.YtdlbpbglidhlfaaGreatDoor
open Go.RowKit Go.Shelf Go.Lib

theorem or_step (j x y : Nat) (hj : j ≤ 9) (hx : x < 128 ^ j) : bits .or .u64 ((x : Nat) : Int) (IntKind.u64.wrap (((y : Nat) : Int) % 128 * 2 ^ (7 * j))) = (((x + 128 ^ j * (y % 128)) % 18446744073709551616 : Nat) : Int) := by
  have key : ∀ (k : Nat) (K : Nat) (D : Nat), K = 2 ^ k → K * D = 18446744073709551616 → x < K → (2 : Int) ^ k = ((K : Nat) : Int) → bits .or .u64 ((x : Nat) : Int) (IntKind.u64.wrap (((y : Nat) : Int) % 128 * ((K : Nat) : Int))) = (((x + K * (y % 128)) % 18446744073709551616 : Nat) : Int) := by
    intro k K D hK hD hxK _
    have e1 : IntKind.u64.wrap (((y : Nat) : Int) % 128 * ((K : Nat) : Int)) = ((((y % 128) % D) * K : Nat) : Int) := by
      rw [IntKind.wrap_u64, show ((y : Nat) : Int) % 128 * ((K : Nat) : Int) = (((y % 128) * K : Nat) : Int) by rw [Int.natCast_mul]; rfl]
      have : ((y % 128) % D) * K = (y % 128 * K) % 18446744073709551616 := by rw [← hD, Nat.mul_comm K D, Nat.mul_mod_mul_right]
      rw [this]
      omega
    have hDp : 0 < D := Nat.pos_of_ne_zero fun e => by subst e; omega
    have hb : (y % 128) % D < D := Nat.mod_lt _ hDp
    have hle : ((y % 128) % D) * K + K ≤ 18446744073709551616 := by
      have := Nat.mul_le_mul_right K (show (y % 128) % D + 1 ≤ D by omega)
      rw [Nat.add_mul, Nat.one_mul, Nat.mul_comm D K, hD] at this
      exact this
    rw [e1]
    refine (u64_or_nat x _ (by omega) (by omega)).trans ?_
    have e2 : x ||| (y % 128 % D * K) = x + y % 128 % D * K := by rw [hK]; exact or_part x _ k (by rw [← hK]; exact hxK)
    rw [e2]
    have e3 : K * (y % 128) = y % 128 % D * K + 18446744073709551616 * (y % 128 / D) := by
      have h1 := Nat.div_add_mod (y % 128) D
      rw [← hD, Nat.mul_assoc, Nat.mul_comm (y % 128 % D) K, ← Nat.mul_add]
      congr 1
      omega
    congr 1
    rw [e3]
    omega
  have hpow : (128 : Nat) ^ j = 2 ^ (7 * j) := by rw [Nat.pow_mul]
  have hi : (2 : Int) ^ (7 * j) = ((128 ^ j : Nat) : Int) := by rw [hpow]; simp
  have hd : (128 : Nat) ^ j * 2 ^ (64 - 7 * j) = 18446744073709551616 := by rw [hpow, ← Nat.pow_add, show 7 * j + (64 - 7 * j) = 64 by omega]
  rw [hi]
  exact key (7 * j) (128 ^ j) (2 ^ (64 - 7 * j)) hpow hd hx hi
theorem jn_lt64 (bs : List UInt8) : jn64 bs < 18446744073709551616 := Nat.mod_lt _ (by decide)
theorem jn_small (bs : List UInt8) (h : bs.length ≤ 9) : jn64 bs = val bs := by
  unfold jn64
  have h1 := val_lt bs
  have h2 := Nat.pow_le_pow_right (n := 128) (by omega) h
  have h3 : (128 ^ 9 : Nat) = 9223372036854775808 := by decide
  exact Nat.mod_eq_of_lt (by omega)
theorem jn_succ (bs : List UInt8) (j : Nat) (hj : j < bs.length) (h9 : j ≤ 9) : bits .or .u64 ((jn64 (bs.take j) : Nat) : Int) (IntKind.u64.wrap ((((bs.getD j 0).toNat : Nat) : Int) % 128 * 2 ^ (7 * j))) = ((jn64 (bs.take (j + 1)) : Nat) : Int) := by
  have hl : (bs.take j).length = j := by rw [List.length_take]; omega
  rw [jn_small _ (by omega)]
  have hv := val_lt (bs.take j)
  rw [hl] at hv
  rw [or_step j _ _ h9 hv]
  congr 1
  unfold jn64
  rw [List.take_succ_eq_append_getElem hj, val_append, hl, List.getD_eq_getElem?_getD, List.getElem?_eq_getElem hj]
  simp [val]

set_option maxRecDepth 100000 in
set_option maxHeartbeats 2000000 in
theorem joined_any (u : Value) (bs : List UInt8) (w : World) (h : Bytes w u bs) (hl : bs.length ≤ 10) : Calls Tryz.prog 105 #[u] w fun e w' => e = .returned (.int .u64 ((jn64 bs : Nat) : Int)) ∧ w' = w := by
  obtain ⟨a, c, rfl, hlc⟩ := h.form
  obtain ⟨n, hn⟩ : ∃ n, n = bs.length := ⟨_, rfl⟩
  rw [← hn] at h hlc hl ⊢
  have HH := hide h
  have HN := hide hn
  clear h hn
  go_enter Tryz.func105, Tryz.ntmps105
  go_wp2
  go_loopw [3, 8] (fun r k W => ∃ j : Nat, j ≤ n ∧ k = .int .i64 j ∧ r = .int .u64 ((jn64 (bs.take j) : Nat) : Int) ∧ W = w) (fun _ k _ => n - (intOf k).toNat)
  case atStart => exact ⟨0, by omega, rfl, by simp [jn64, val], rfl⟩
  case round =>
    obtain ⟨j, hj, rfl, rfl, rfl⟩ := hrel
    by_cases hlt : j < n
    · obtain ⟨ad, rfl, hc⟩ := (unhide HH).at hlt (unhide HN).symm
      have hk1 : (j : Int) < (n : Int) := by omega
      have HS := hide (jn_succ bs j (by have := unhide HN; omega) (by omega))
      generalize jn64 (bs.take j) = x at *
      have hyl : (bs.getD j 0).toNat < 256 := (bs.getD j 0).toNat_lt
      generalize (bs.getD j 0).toNat = y at *
      go_wp2
      exact ⟨⟨j + 1, by omega, by go_num, by rw [unhide HS], trivial⟩, by simp [intOf]; omega⟩
    · have e : j = n := by omega
      subst e
      have HT : Hid (bs.take j = bs) := List.take_of_length_le (by have := unhide HN; omega)
      rw [unhide HT]
      go_wp2
      go_ret
      exact ⟨rfl, rfl⟩
end Go.Proofs.YtdlbpbglidhlfaaGreatDoor

namespace Go.Proofs.YtdlbpbglidhlfaaGreatDoor
open Go.RowKit Go.Shelf Go.Lib

/-- Where the first byte is that ends a number. -/
def EndAt (bs : List UInt8) (i : Int) : Prop := (∃ (p : List UInt8) (y : UInt8) (r : List UInt8), bs = p ++ y :: r ∧ Highs p ∧ y.toNat < 128 ∧ i = p.length) ∨ (Highs bs ∧ i = -1)

set_option maxRecDepth 100000 in
set_option maxHeartbeats 2000000 in
theorem indexFunc_any (u : Value) (bs : List UInt8) (w : World) (h : Bytes w u bs) (hl : bs.length ≤ 1048576) : Calls Tryz.prog 102 #[u, .func (.func 103) #[] #[]] w fun e w' => (∃ i : Int, EndAt bs i ∧ e = .returned (.int .i64 i)) ∧ w' = w := by
  obtain ⟨a, c, rfl, hlc⟩ := h.form
  obtain ⟨n, hn⟩ : ∃ n, n = bs.length := ⟨_, rfl⟩
  rw [← hn] at h hlc hl ⊢
  have HH := hide h
  have HN := hide hn
  clear h hn
  go_enter Tryz.func102, Tryz.ntmps102
  go_wp2
  go_loopw [8] (fun k W => ∃ j : Nat, j ≤ n ∧ k = .int .i64 j ∧ Highs (bs.take j) ∧ W = w) (fun k _ => n - (intOf k).toNat)
  case atStart => exact ⟨0, by omega, rfl, fun x hx => by simp at hx, rfl⟩
  case round =>
    obtain ⟨j, hj, rfl, hH, rfl⟩ := hrel
    have HHI := hide hH
    clear hH
    by_cases hlt : j < n
    · obtain ⟨ad, rfl, hc⟩ := (unhide HH).at hlt (unhide HN).symm
      have hk1 : (j : Int) < (n : Int) := by omega
      have HX : Hid (bs.getD j 0 = bs.getD j 0) := rfl
      have HP : Hid (bs = bs.take j ++ bs.getD j 0 :: bs.drop (j + 1)) := by
        show _ = _
        rw [List.getD_eq_getElem?_getD, List.getElem?_eq_getElem (by have := unhide HN; omega), Option.getD_some, ← List.drop_eq_getElem_cons, List.take_append_drop]
      have HL : Hid ((bs.take j).length = j) := by show _ = _; rw [List.length_take]; have := unhide HN; omega
      have HSU : Hid (bs.take (j + 1) = bs.take j ++ [bs.getD j 0]) := by
        show _ = _
        rw [List.getD_eq_getElem?_getD, List.getElem?_eq_getElem (by have := unhide HN; omega), List.take_succ_eq_append_getElem (by have := unhide HN; omega)]
        rfl
      generalize bs.getD j 0 = y at *
      go_wp2_with fail
      refine (isLast_any y.toNat _).mono ?_
      rintro e w' ⟨rfl, rfl⟩
      by_cases hy : y.toNat < 128
      · have hd : decide (y.toNat < 128) = true := decide_eq_true hy
        rw [hd]
        go_wp2
        go_ret
        exact ⟨⟨_, .inl ⟨bs.take j, y, _, unhide HP, unhide HHI, hy, by rw [unhide HL]⟩, rfl⟩, rfl⟩
      · have hd : decide (y.toNat < 128) = false := decide_eq_false hy
        rw [hd]
        go_wp2
        refine ⟨⟨j + 1, by omega, by go_num, fun x hx => ?_, trivial⟩, by simp [intOf]; omega⟩
        rw [unhide HSU] at hx
        rcases List.mem_append.1 hx with h1 | h1
        · exact unhide HHI x h1
        · rw [List.mem_singleton.1 h1]; omega
    · have e : j = n := by omega
      subst e
      have HT : Hid (bs.take j = bs) := List.take_of_length_le (by have := unhide HN; omega)
      go_wp2
      go_ret
      exact ⟨⟨_, .inr ⟨by rw [← unhide HT]; exact unhide HHI, rfl⟩, rfl⟩, rfl⟩

set_option maxHeartbeats 400000 in
theorem bytesEqual_any (u1 u2 : Value) (b1 b2 : List UInt8) (w : World) (h1 : Bytes w u1 b1) (h2 : Bytes w u2 b2) : Calls Tryz.prog 106 #[u1, u2] w fun e w' => e = .returned (.bool (decide (b1 = b2))) ∧ w' = w := by
  have c1 := run_convert_bytes (P := Tryz.prog) w 28 9 5 Tryz.underlying28 Tryz.underlying5 Tryz.underlying9 u1 b1 h1
  have c2 := run_convert_bytes (P := Tryz.prog) w 28 9 5 Tryz.underlying28 Tryz.underlying5 Tryz.underlying9 u2 b2 h2
  have e0 : ((⟨b1.toArray⟩ : ByteArray).toList == (⟨b2.toArray⟩ : ByteArray).toList) = decide (b1 = b2) := by
    rw [ByteArray.toList_eq, ByteArray.toList_eq, Bool.eq_iff_iff]; simp
  have HE : Hid (((⟨b1.toArray⟩ : ByteArray).toList == (⟨b2.toArray⟩ : ByteArray).toList) = decide (b1 = b2)) := e0
  clear e0 h1 h2
  generalize (⟨b1.toArray⟩ : ByteArray) = s1 at *
  generalize (⟨b2.toArray⟩ : ByteArray) = s2 at *
  go_enter Tryz.func106, Tryz.ntmps106
  go_wp2
  go_ret
  exact ⟨ret_bool HE.out, rfl⟩
end Go.Proofs.YtdlbpbglidhlfaaGreatDoor

namespace Go.Proofs.YtdlbpbglidhlfaaGreatDoor
open Go.RowKit

/-- b[l:h]: its value, whatever the world, and its bytes. -/
theorem slice_mid {w : World} {a : Option Addr} {n c l h : Nat} {bs : List UInt8} (hb : Bytes w (.slice a n c) bs) (h1 : l ≤ h) (h2 : h ≤ n) : ∃ sa sc, Bytes w (.slice sa (h - l) sc) ((bs.drop l).take (h - l)) ∧ (∀ W : World, (Instr.slice 28 (.slice a n c) (some (.int .i64 (l : Nat))) (some (.int .i64 (h : Nat))) none).run Tryz.prog W = .ok (.slice sa (h - l) sc) W) ∧ (∀ W : World, (Instr.sliceAt 28 (.slice a n c) (some (.int .i64 (l : Nat))) (some (.int .i64 (h : Nat))) none).run Tryz.prog W = .ok (.slice sa (h - l) sc) W) ∧ (∀ k, (Value.slice sa (h - l) sc).ownBlock = some k → (Value.slice a n c).ownBlock = some k) := by
  obtain ⟨hl, hnc⟩ := bytes_len hb
  have hu : Tryz.prog.underlying 28 = some (.slice 5) := Tryz.underlying28
  have hel : Tryz.prog.elem 28 = 5 := by unfold Program.elem; rw [hu]
  have hu' : Tryz.prog.underlying 28 = some (.slice (Tryz.prog.elem 28)) := by rw [hel]; exact hu
  have hr : ∀ W : World, (Instr.slice 28 (.slice a n c) (some (.int .i64 (l : Nat))) (some (.int .i64 (h : Nat))) none).run Tryz.prog W = .ok (.slice (if c = l then a else a.map (·.add l)) (h - l) (c - l)) W := fun W => by
    rw [run_slice_lh W 28 a n c hu' .i64 .i64 l h (by omega) (by omega) (by omega), hel]
    have hsz : (sizeOf 5).run Tryz.prog W = .ok 1 W := by simp [sizeOf]; rfl
    rw [hsz]
    simp only [Result.andThen, sliced, Int.toNat_natCast, Nat.mul_one]
  refine ⟨_, _, ?_, hr, fun W => by rw [run_sliceAt_slice W _ _ _ _ _ hu']; exact hr W, fun k hk => ?_⟩
  · have hdl : ((bs.drop l).take (h - l)).length = h - l := by rw [List.length_take, List.length_drop]; omega
    rcases hb with ⟨hv, hbn⟩ | ⟨ad, c', hv, hl1, hl2, hbb⟩
    · simp only [Value.slice.injEq] at hv
      obtain ⟨rfl, hn, rfl⟩ := hv
      have e1 : l = 0 := by omega
      have e2 : h = 0 := by omega
      subst e1 e2
      exact .inl ⟨by simp, by rw [hbn]; simp⟩
    · simp only [Value.slice.injEq] at hv
      obtain ⟨rfl, _, rfl⟩ := hv
      by_cases hc : c = l
      · rw [if_pos hc]
        have e0 : h - l = 0 := by omega
        rw [e0]
        exact .inr ⟨ad, c - l, rfl, Nat.zero_le _, by omega, fun j x hx => by simp at hx⟩
      · rw [if_neg hc]
        refine .inr ⟨ad.add l, c - l, by rw [hdl]; rfl, by rw [hdl]; omega, by omega, fun j x hx => ?_⟩
        have hj : j < h - l := by have := (List.getElem?_eq_some_iff.1 hx).1; rw [List.length_map, hdl] at this; exact this
        have := hbb (l + j) x (by rw [List.map_take, List.map_drop, List.getElem?_take, if_pos hj, List.getElem?_drop] at hx; exact hx)
        rwa [Addr.add_add]
  · split at hk
    · cases a <;> exact hk
    · cases a with
      | none => cases hk
      | some ad =>
        have e : (ad.add l).block = ad.block := add_block ad l
        have hk' : some (ad.add l).block = some k := hk
        rw [e] at hk'
        exact hk'

/-- b[:h]: its value, whatever the world, and its bytes. -/
theorem slice_to {w : World} {a : Option Addr} {n c h : Nat} {bs : List UInt8} (hb : Bytes w (.slice a n c) bs) (h1 : h ≤ n) : ∃ sa sc, Bytes w (.slice sa h sc) (bs.take h) ∧ (∀ W : World, (Instr.slice 28 (.slice a n c) none (some (.int .i64 (h : Nat))) none).run Tryz.prog W = .ok (.slice sa h sc) W) ∧ (∀ W : World, (Instr.sliceAt 28 (.slice a n c) none (some (.int .i64 (h : Nat))) none).run Tryz.prog W = .ok (.slice sa h sc) W) := by
  obtain ⟨hl, hnc⟩ := bytes_len hb
  obtain ⟨sa, sc, B, q, _, _⟩ := slice_mid (l := 0) (h := h) hb (Nat.zero_le _) h1
  have hu : Tryz.prog.underlying 28 = some (.slice 5) := Tryz.underlying28
  have hel : Tryz.prog.elem 28 = 5 := by unfold Program.elem; rw [hu]
  have hu' : Tryz.prog.underlying 28 = some (.slice (Tryz.prog.elem 28)) := by rw [hel]; exact hu
  have hr : ∀ W : World, (Instr.slice 28 (.slice a n c) none (some (.int .i64 (h : Nat))) none).run Tryz.prog W = .ok (.slice sa h sc) W := fun W => by
    have e1 := run_slice_h W 28 a n c hu' .i64 h (by omega) (by omega)
    have e2 := run_slice_lh W 28 a n c hu' .i64 .i64 (0 : Nat) h (by omega) (by omega) (by omega)
    have e3 := q W
    rw [e2] at e3
    rw [e1]
    exact e3
  exact ⟨sa, sc, B, hr, fun W => by rw [run_sliceAt_slice W _ _ _ _ _ hu']; exact hr W⟩

/-- A struct in a cell and two numbers in slots are handed back. -/
theorem results_ctt {P : Program} {fn : Func} {p u v : Tmp} {ty : TypeId} (h : fn.results = #[.cell p ty, .tmp u, .tmp v]) (tmps : Array Value) (w : World) (g : Nat) (t : TypeId) (cs : Array Value) (fr : Nat × Nat) (d : TypeDesc)
    (hp : tmps.getD p undef = .pointer (some ⟨g, 0, none⟩)) (hg : w.heap[g]? = some (.cells cs t fr))
    (hu : P.underlying ty = some d) (hd : (match d with | .struct _ | .array _ _ => true | _ => false) = true) (hi : (P.info? ty).map (·.size) = some cs.size) :
    (results fn tmps).run P w = .ok (.tuple #[.agg cs, tmps.getD u undef, tmps.getD v undef]) w := by
  have hp' : tmps[p]?.getD undef = .pointer (some ⟨g, 0, none⟩) := by simpa using hp
  simp only [results, h]
  simp [Result.andThen, hp', asAddr, run_loadVar_row w g t ty cs fr d hg hu hd hi]

/-- b[l:]: its value, whatever the world, and its bytes. -/
theorem slice_from {w : World} {a : Option Addr} {n c l : Nat} {bs : List UInt8} (hb : Bytes w (.slice a n c) bs) (h1 : l ≤ n) : ∃ sa sc, Bytes w (.slice sa (n - l) sc) (bs.drop l) ∧ (∀ W : World, (Instr.slice 28 (.slice a n c) (some (.int .i64 (l : Nat))) none none).run Tryz.prog W = .ok (.slice sa (n - l) sc) W) ∧ (∀ W : World, (Instr.sliceAt 28 (.slice a n c) (some (.int .i64 (l : Nat))) none none).run Tryz.prog W = .ok (.slice sa (n - l) sc) W) := by
  obtain ⟨hl, hnc⟩ := bytes_len hb
  obtain ⟨sa, sc, B, q, _, _⟩ := slice_mid (l := l) (h := n) hb h1 (Nat.le_refl _)
  have hu : Tryz.prog.underlying 28 = some (.slice 5) := Tryz.underlying28
  have hel : Tryz.prog.elem 28 = 5 := by unfold Program.elem; rw [hu]
  have hu' : Tryz.prog.underlying 28 = some (.slice (Tryz.prog.elem 28)) := by rw [hel]; exact hu
  have hr : ∀ W : World, (Instr.slice 28 (.slice a n c) (some (.int .i64 (l : Nat))) none none).run Tryz.prog W = .ok (.slice sa (n - l) sc) W := fun W => by
    have e1 := run_slice_l W 28 a n c hu' .i64 l (by omega) (by omega)
    have e2 := run_slice_lh W 28 a n c hu' .i64 .i64 l n (by omega) (by omega) (by omega)
    rw [← q W, e1, e2]
    rfl
  refine ⟨sa, sc, ?_, hr, fun W => by rw [run_sliceAt_slice W _ _ _ _ _ hu']; exact hr W⟩
  rwa [List.take_of_length_le (by rw [List.length_drop]; omega)] at B
end Go.Proofs.YtdlbpbglidhlfaaGreatDoor

namespace Go.Proofs.YtdlbpbglidhlfaaGreatDoor
open Go.RowKit

/-- Where a slice's bytes from place k on lie. -/
def wcutA (a : Option Addr) (n k : Nat) : Option Addr := if n = k then a else a.map (·.add k)

theorem Bytes.cut {w : World} {a : Option Addr} {n c k : Nat} {bs : List UInt8} (h : Bytes w (.slice a n c) bs) (hk : k ≤ n) : Bytes w (.slice (wcutA a n k) (n - k) (n - k)) (bs.drop k) := by
  obtain ⟨hl, hnc⟩ := bytes_len h
  have hdl : (bs.drop k).length = n - k := by rw [List.length_drop, hl]
  rcases h with ⟨hv, rfl⟩ | ⟨ad, c', hv, h1, h2, hr⟩
  · simp only [Value.slice.injEq] at hv
    obtain ⟨rfl, rfl, rfl⟩ := hv
    have : k = 0 := by omega
    subst this
    exact .inl ⟨rfl, rfl⟩
  · simp only [Value.slice.injEq] at hv
    obtain ⟨rfl, _, rfl⟩ := hv
    by_cases e : n = k
    · subst e
      refine .inr ⟨ad, n - n, by rw [hdl, wcutA, if_pos rfl], by omega, by unfold maxLen at *; omega, fun j x hx => ?_⟩
      rw [List.drop_of_length_le (by omega)] at hx
      cases hx
    · refine .inr ⟨ad.add k, n - k, by rw [hdl, wcutA, if_neg e]; rfl, by omega, by unfold maxLen at *; omega, fun j x hx => ?_⟩
      rw [List.map_drop, List.getElem?_drop] at hx
      rw [Addr.add_add]
      exact hr _ _ hx

section
variable {a : Option Addr} {n c : Nat}
theorem typ_bytes : Tryz.prog.underlying 28 = some (.slice (Tryz.prog.elem 28)) := by
  have hel : Tryz.prog.elem 28 = 5 := by unfold Program.elem; rw [Tryz.underlying28]
  rw [hel]; exact Tryz.underlying28
theorem cut_run {k : Nat} (h1 : k ≤ n) (h2 : n ≤ c) : (∀ W : World, (Instr.slice 28 (.slice a n c) (some (.int .i64 (k : Nat))) (some (.int .i64 (n : Nat))) (some (.int .i64 (n : Nat)))).run Tryz.prog W = .ok (.slice (wcutA a n k) (n - k) (n - k)) W) ∧
    (∀ W : World, (Instr.sliceAt 28 (.slice a n c) (some (.int .i64 (k : Nat))) (some (.int .i64 (n : Nat))) (some (.int .i64 (n : Nat)))).run Tryz.prog W = .ok (.slice (wcutA a n k) (n - k) (n - k)) W) := by
  have hel : Tryz.prog.elem 28 = 5 := by unfold Program.elem; rw [Tryz.underlying28]
  have hr : ∀ W : World, (Instr.slice 28 (.slice a n c) (some (.int .i64 (k : Nat))) (some (.int .i64 (n : Nat))) (some (.int .i64 (n : Nat)))).run Tryz.prog W = .ok (.slice (wcutA a n k) (n - k) (n - k)) W := fun W => by
    rw [run_slice_lhm W 28 a n c typ_bytes .i64 .i64 .i64 k n n (by omega) (by omega) (by omega) (by omega), hel]
    have hsz : (sizeOf 5).run Tryz.prog W = .ok 1 W := by simp [sizeOf]; rfl
    rw [hsz]
    simp only [Result.andThen, sliced, Int.toNat_natCast, Nat.mul_one, wcutA]
  exact ⟨hr, fun W => by rw [run_sliceAt_slice W _ _ _ _ _ typ_bytes]; exact hr W⟩
theorem wcutL_run {k : Nat} (h1 : k ≤ n) : (∀ W : World, (Instr.slice 28 (.slice a n n) (some (.int .i64 (k : Nat))) none none).run Tryz.prog W = .ok (.slice (wcutA a n k) (n - k) (n - k)) W) ∧
    (∀ W : World, (Instr.sliceAt 28 (.slice a n n) (some (.int .i64 (k : Nat))) none none).run Tryz.prog W = .ok (.slice (wcutA a n k) (n - k) (n - k)) W) := by
  have hel : Tryz.prog.elem 28 = 5 := by unfold Program.elem; rw [Tryz.underlying28]
  have hr : ∀ W : World, (Instr.slice 28 (.slice a n n) (some (.int .i64 (k : Nat))) none none).run Tryz.prog W = .ok (.slice (wcutA a n k) (n - k) (n - k)) W := fun W => by
    rw [run_slice_l W 28 a n n typ_bytes .i64 k (by omega) (by omega), hel]
    have hsz : (sizeOf 5).run Tryz.prog W = .ok 1 W := by simp [sizeOf]; rfl
    rw [hsz]
    simp only [Result.andThen, sliced, Int.toNat_natCast, Nat.mul_one, wcutA]
  exact ⟨hr, fun W => by rw [run_sliceAt_slice W _ _ _ _ _ typ_bytes]; exact hr W⟩
theorem head_run {h : Nat} (h1 : h ≤ c) : (∀ W : World, (Instr.slice 28 (.slice a n c) none (some (.int .i64 (h : Nat))) none).run Tryz.prog W = .ok (.slice a h c) W) ∧
    (∀ W : World, (Instr.sliceAt 28 (.slice a n c) none (some (.int .i64 (h : Nat))) none).run Tryz.prog W = .ok (.slice a h c) W) := by
  have hel : Tryz.prog.elem 28 = 5 := by unfold Program.elem; rw [Tryz.underlying28]
  have hr : ∀ W : World, (Instr.slice 28 (.slice a n c) none (some (.int .i64 (h : Nat))) none).run Tryz.prog W = .ok (.slice a h c) W := fun W => by
    rw [run_slice_h W 28 a n c typ_bytes .i64 h (by omega) (by omega), hel]
    have hsz : (sizeOf 5).run Tryz.prog W = .ok 1 W := by simp [sizeOf]; rfl
    rw [hsz]
    simp only [Result.andThen, sliced, Int.toNat_natCast, Nat.mul_one, Nat.sub_zero]
    by_cases e : c = 0
    · rw [if_pos e]
    · rw [if_neg e]; cases a <;> simp [Addr.add]
  exact ⟨hr, fun W => by rw [run_sliceAt_slice W _ _ _ _ _ typ_bytes]; exact hr W⟩
end
end Go.Proofs.YtdlbpbglidhlfaaGreatDoor
