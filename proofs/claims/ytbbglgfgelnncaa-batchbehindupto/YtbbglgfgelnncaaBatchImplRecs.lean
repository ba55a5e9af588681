/- The landed package batch: records. No statement of the seat is proved here. -/
import Derived.Test.YtbbglgfgelnncaaBatchImplA
import Derived.Test.YtbbglgfgelnncaaRecImplPut
namespace Go.Proofs.Ytbbglgfgelnncaa
open Go.RowKit

/-- Records of ours, new since w, of bytes that were there in w0. -/
structure RecsH (w0 w : World) (v : Value) (rs : List RecD) (W : World) : Prop where
  own : ∃ xs, W.ownsRow w.heap.size 49 2 v rs.length xs ∧ xs.length = 2 * rs.length ∧ ∀ (i : Nat) r, rs[i]? = some r → ∃ a n c, xs[2 * i]? = some (.int .u8 (r.k.toNat : Nat)) ∧ xs[2 * i + 1]? = some (.slice a n c) ∧ Bytes w0 (.slice a n c) r.d
  bb : Below w.heap.size w W
theorem RecsH.start (w0 w : World) : RecsH w0 w (.slice none 0 0) [] w := ⟨⟨[], World.ownsRow_nil _ _ _ _, rfl, fun i x hx => (by cases hx)⟩, Below.refl _ w⟩
theorem RecsH.later {w0 w W W' : World} {v : Value} {rs : List RecD} (h : RecsH w0 w v rs W) (hb : Below W.heap.size W W') : RecsH w0 w v rs W' := by
  obtain ⟨⟨xs, h1, h2⟩, h3⟩ := h
  exact ⟨⟨xs, row_keeps h1 fun k hk => hb.block k (h1.lt k hk).2, h2⟩, h3.trans (hb.mono h3.size)⟩
theorem RecsH.form {w0 w W : World} {v : Value} {rs : List RecD} (h : RecsH w0 w v rs W) : ∃ a c, v = .slice a rs.length c := by
  obtain ⟨⟨xs, h1, _⟩, _⟩ := h
  rcases h1.2 with ⟨rfl, h0⟩ | ⟨g, cap, cur, rfl, _⟩
  · exact ⟨_, _, by rw [h0]⟩
  · exact ⟨_, _, rfl⟩
theorem cells_snoc {rs : List RecD} {xs : List Value} {E : Value → RecD → Prop} {r : RecD} {a' : Option Addr} {n' c' : Nat} (h0 : xs.length = 2 * rs.length) (h : ∀ (i : Nat) r, rs[i]? = some r → ∃ a n c, xs[2 * i]? = some (.int .u8 (r.k.toNat : Nat)) ∧ xs[2 * i + 1]? = some (.slice a n c) ∧ E (.slice a n c) r) (hE : E (.slice a' n' c') r) :
    ∀ (i : Nat) s, (rs ++ [r])[i]? = some s → ∃ a n c, (xs ++ recCells r (.slice a' n' c'))[2 * i]? = some (.int .u8 (s.k.toNat : Nat)) ∧ (xs ++ recCells r (.slice a' n' c'))[2 * i + 1]? = some (.slice a n c) ∧ E (.slice a n c) s := by
  intro i s hs
  by_cases hi : i < rs.length
  · rw [List.getElem?_append_left hi] at hs
    obtain ⟨a, n, c, h1, h2, h3⟩ := h i s hs
    exact ⟨a, n, c, by rw [List.getElem?_append_left (by omega)]; exact h1, by rw [List.getElem?_append_left (by omega)]; exact h2, h3⟩
  · have hi2 : i = rs.length := by have := (List.getElem?_eq_some_iff.1 hs).1; rw [List.length_append, List.length_singleton] at this; omega
    rw [hi2, List.getElem?_append_right (Nat.le_refl _), Nat.sub_self] at hs
    cases hs
    refine ⟨a', n', c', ?_, ?_, hE⟩
    · rw [hi2, ← h0, List.getElem?_append_right (Nat.le_refl _), Nat.sub_self]; rfl
    · rw [hi2, List.getElem?_append_right (by omega), show 2 * rs.length + 1 - xs.length = 1 by omega]; rfl
/-- One record more; whatever is kept of the bytes of all. -/
structure GrewRec (w0 w W : World) (v : Value) (rs : List RecD) (r : RecD) (u v' : Value) (W' : World) : Prop where
  row : ∃ xs, W'.ownsRow w.heap.size 49 2 v' (rs ++ [r]).length (xs ++ recCells r u) ∧ xs.length = 2 * rs.length ∧ ∀ (i : Nat) r, rs[i]? = some r → ∃ a n c, xs[2 * i]? = some (.int .u8 (r.k.toNat : Nat)) ∧ xs[2 * i + 1]? = some (.slice a n c) ∧ Bytes w0 (.slice a n c) r.d
  bb : Below w.heap.size w W'
  gr : W.grownBy W' v.ownBlock
theorem wpList_append_recE {w0 w W : World} {ops : Array Oper} {rest : List Oper} {op : Oper} {a : Act} {Q : Exit → Act → World → Prop}
    (hg : op.guard = none) (s x : Operand) (hop : op.op = Op.call { callee := Callee.builtin Builtin.append, args := #[s, x], argTypes := #[56, 56] })
    (v : Value) (rs : List RecD) (r : RecD) (a' : Option Addr) (n' c' g cap : Nat) (hsv : a.eval s = v) (hR : RecsH w0 w v rs W) (hx : a.eval x = .slice (some ⟨g, 0, none⟩) 1 cap)
    (h0 : W.cell? ⟨g, 0, none⟩ = some (.int .u8 (r.k.toNat : Nat))) (h1 : W.cell? ⟨g, 1, none⟩ = some (.slice a' n' c')) (hl : rs.length ≤ 1048576)
    (hK : ∀ v' W', GrewRec w0 w W v rs r (.slice a' n' c') v' W' → wpList Try.prog ops Q rest (a.put op.dst v') W') :
    wpList Try.prog ops Q (op :: rest) a W := by
  obtain ⟨i, z, hi, hz, hs, hb, hzs⟩ := infoRec
  obtain ⟨⟨xs, hrow, hxl, hcells⟩, hbb⟩ := hR
  refine wpList_append_own_at W hg s x 56 hop w.heap.size 49 i z 2 32 Try.underlying56 hi hz hs hb hzs (by decide) v rs.length xs hsv hrow ⟨g, 0, none⟩ 1 cap (recCells r (.slice a' n' c')) hx rfl
    (fun j u hj => by
      match j, hj with
      | 0, hj => cases hj; exact h0
      | 1, hj => cases hj; exact h1)
    (fun u hu => by
      have : u = .int .u8 (r.k.toNat : Nat) ∨ u = .slice a' n' c' := by simpa [recCells] using hu
      rcases this with rfl | rfl <;> rfl)
    (by unfold maxLen; omega) (by omega) hbb.size ?_
  intro v' W' r1 r2 _ _
  refine hK v' W' ⟨⟨xs, by rw [List.length_append]; exact r1, hxl, hcells⟩, ?_, r2⟩
  exact ⟨r2.os.trans hbb.os, r2.tape.trans hbb.tape, r2.output.trans hbb.output, Nat.le_trans hbb.size r2.size, fun k hk => (r2.block k (Nat.lt_of_lt_of_le hk hbb.size) (fun e => by have := (hrow.lt k e.symm).1; omega)).trans (hbb.block k hk)⟩
theorem recs_of_cells {W : World} {base : Nat} {v : Value} {rs : List RecD} {xs : List Value} (h1 : W.ownsRow base 49 2 v rs.length xs) (h : ∀ (i : Nat) r, rs[i]? = some r → ∃ a n c, xs[2 * i]? = some (.int .u8 (r.k.toNat : Nat)) ∧ xs[2 * i + 1]? = some (.slice a n c) ∧ Bytes W (.slice a n c) r.d) : RecsAt W v rs := by
  rcases h1.2 with ⟨rfl, h0⟩ | ⟨g, cap, cur, rfl, _, h3, h4, _⟩
  · exact .inl ⟨⟨_, _, rfl⟩, List.eq_nil_of_length_eq_zero h0⟩
  · refine .inr ⟨g, 0, cap, rfl, h4, fun i hi => ?_⟩
    have e : rs.getD i ⟨0, []⟩ = rs[i] := by rw [List.getD_eq_getElem?_getD, List.getElem?_eq_getElem hi]; rfl
    rw [e]
    obtain ⟨a, n, c, e1, e2, e3⟩ := h i _ (List.getElem?_eq_getElem hi)
    have hc := h1.cells (g := g) rfl
    refine ⟨a, n, c, ?_, ?_, e3⟩
    · have := hc _ _ e1; rwa [Addr.add_mid] at this
    · have := hc _ _ e2; rwa [Addr.add_mid] at this

/-- The records stand as long as what is older than w0, or younger than w, is not turned. -/
def RecsIn (w0 w w' : World) (v : Value) (rs : List RecD) : Prop := ∀ W' : World, (∀ k, (k < w0.heap.size ∨ w.heap.size ≤ k) → k < w'.heap.size → W'.heap[k]? = w'.heap[k]?) → RecsAt W' v rs

set_option maxRecDepth 100000 in
set_option maxHeartbeats 4000000 in
theorem records_any (u : Value) (rows : List (List UInt8)) (w0 w : World) (h : RowsAt w0 u rows) (hb0 : Below w0.heap.size w0 w) (hl : rows.length ≤ 1024) : Calls Try.prog 27 #[u] w fun e w' => ∃ v, e = .returned v ∧ RecsIn w0 w w' v (recsOf rows) ∧ Below w.heap.size w w' := by
  obtain ⟨a, c, rfl, _⟩ := h.form
  obtain ⟨n, hn⟩ : ∃ n, n = rows.length := ⟨_, rfl⟩
  rw [← hn] at h hl ⊢
  have HH := hide h
  have HN := hide hn
  have HB0 := hide hb0
  clear h hn hb0
  go_enter Try.func27, Try.ntmps27
  go_wp2_with fail
  go_loopw [3, 8] (fun v i W => ∃ j : Nat, j ≤ n ∧ i = .int .i64 j ∧ RecsH w0 w v ((rows.take j).map dat) W) (fun _ i _ => n - (intOf i).toNat)
  case atStart => exact ⟨0, Nat.zero_le _, rfl, RecsH.start w0 w⟩
  case round =>
    obtain ⟨j, hj, rfl, hO⟩ := hrel
    have HO := hide hO
    clear hO
    have HLL : Hid (((rows.take j).map dat).length ≤ 1048576) := by show _ ≤ _; rw [List.length_map, List.length_take]; omega
    by_cases hlt : j < n
    · obtain ⟨x, hx⟩ := some_get (xs := rows) (j := j) (by have := unhide HN; omega)
      obtain ⟨b1, o1, v1, e1, x1, x3⟩ := (unhide HH).at hx
      subst e1
      have hbw : Below w0.heap.size w0 wr := (unhide HB0).trans ((unhide HO).bb.mono (unhide HB0).size)
      have x2 := (hbw.cell (p := ⟨b1, o1 + j, none⟩) (World.block_lt_of_cell? _ _ x1)).trans x1
      obtain ⟨d1, k1, ed1, _⟩ := x3.form
      subst ed1
      have i1 : (j : Int) < (n : Int) := by omega
      have HMS := hide (map_take_succ hx)
      have X3 := hide x3
      clear x3 hx x1 hbw
      obtain ⟨nx, hnx⟩ : ∃ nx, nx = x.length := ⟨_, rfl⟩
      rw [← hnx] at x2 X3
      clear hnx
      obtain ⟨rj, hrj⟩ : ∃ rj, rj = (rows.take j).map dat := ⟨_, rfl⟩
      rw [← hrj] at HO HLL HMS
      clear hrj
      have HO2 := hide ((unhide HO).later ((Below.refl _ wr).alloc (Nat.le_refl _) (.cells #[.int .u8 1, .slice d1 nx k1] 49)))
      have HBK := hide (heap_alloc_new wr (.cells #[.int .u8 1, .slice d1 nx k1] 49))
      go_wp2_with (at_builtin; refine wpList_append_recE rfl _ _ rfl _ rj (dat x) d1 nx k1 wr.heap.size _ rfl (unhide HO2) rfl (cell_of_row _ _ 0 _ _ _ (unhide HBK)) (cell_of_row _ _ 1 _ _ _ (unhide HBK)) (unhide HLL) ?_)
      rintro v9 w9 hG
      have HG := hide hG
      clear hG
      have HO9 : Hid (RecsH w0 w v9 ((rows.take (j + 1)).map dat) w9) := by
        rw [unhide HMS]
        obtain ⟨⟨xs, r1, r2, r3⟩, r4, _⟩ := unhide HG
        exact ⟨⟨_, r1, by rw [List.length_append, List.length_append, r2]; show _ + 2 = 2 * (_ + 1); omega, cells_snoc (E := fun u r => Bytes w0 u r.d) r2 r3 (unhide X3)⟩, r4⟩
      clear HG HO HO2 HBK
      go_wp2_with fail
      exact ⟨⟨j + 1, by omega, by go_num, unhide HO9⟩, by simp [intOf]; omega⟩
    · have ej : n = j := by omega
      subst ej
      have HTK : Hid (rows.take n = rows) := List.take_of_length_le (by rw [unhide HN]; exact Nat.le_refl _)
      rw [unhide HTK] at HO HLL
      have HWS := hide (unhide HO).bb.size
      go_wp2_with fail
      refine (endOf_any n _).mono ?_
      rintro e w1 ⟨rfl, hB, hb⟩
      have HO1 := hide ((unhide HO).later hb)
      have HLT : Hid (∀ k, u3.ownBlock = some k → k < wr.heap.size) := by
        obtain ⟨⟨xs, h1, _⟩, _⟩ := unhide HO
        exact fun k hk => (h1.lt k hk).2
      have HO2 := hide ((unhide HO1).later ((Below.refl _ w1).alloc (Nat.le_refl _) (.cells #[.int .u8 2, .slice (some ⟨wr.heap.size, 0, none⟩) 2 2] 49)))
      have HBK := hide (heap_alloc_new w1 (.cells #[.int .u8 2, .slice (some ⟨wr.heap.size, 0, none⟩) 2 2] 49))
      have HB2 := hide (hB.alloc (.cells #[.int .u8 2, .slice (some ⟨wr.heap.size, 0, none⟩) 2 2] 49))
      obtain ⟨rj, hrj⟩ : ∃ rj, rj = rows.map dat := ⟨_, rfl⟩
      rw [← hrj] at HO2 HLL
      have HRE : Hid (recsOf rows = rj ++ [commit n]) := by show _ = _; unfold recsOf; rw [hrj, unhide HN]
      clear hB hb HO HO1 hrj
      go_wp2_with (at_builtin; refine wpList_append_recE rfl _ _ rfl _ rj (commit n) (some ⟨wr.heap.size, 0, none⟩) 2 2 w1.heap.size _ rfl (unhide HO2) rfl (cell_of_row _ _ 0 _ _ _ (unhide HBK)) (cell_of_row _ _ 1 _ _ _ (unhide HBK)) (unhide HLL) ?_)
      rintro v9 w9 hG
      have HG := hide hG
      clear hG
      have HF : Hid (RecsIn w0 w w9 v9 (rj ++ [commit n])) := by
        obtain ⟨⟨xs, r1, r2, r3⟩, r4, r5⟩ := unhide HG
        intro W' hW
        refine recs_of_cells (row_keeps r1 fun k hk => hW k (.inr (r1.lt k hk).1) (r1.lt k hk).2) (cells_snoc (E := fun u r => Bytes W' u r.d) r2 (fun i r hr => by
          obtain ⟨a, n, c, e1, e2, e3⟩ := r3 i r hr
          refine ⟨a, n, c, e1, e2, e3.kept fun k _ hk => ?_⟩
          have h1 := (unhide HB0).size
          have h2 := r4.size
          rw [hW k (.inl hk) (by omega), r4.block k (by omega), (unhide HB0).block k hk]) (((unhide HB2).kept (w' := w9) fun k hk hk2 => r5.block k hk2 fun e => by
            have := unhide HLT k e.symm
            simp [Value.ownBlock] at hk
            omega).kept fun k hk hk2 => hW k (.inr ?_) hk2))
        have := unhide HWS
        simp [Value.ownBlock] at hk
        omega
      have HB9 := hide (unhide HG).bb
      clear HG
      go_wp2_with fail
      go_ret
      exact ⟨_, rfl, by rw [unhide HRE]; exact unhide HF, unhide HB9⟩
end Go.Proofs.Ytbbglgfgelnncaa

namespace Go.Proofs.Ytbbglgfgelnncaa
open Go.RowKit

/-- make([]byte, 0, C). -/
theorem makeRoom (C : Nat) (hC : C ≤ 1000000000) : ∃ Z : Array Value, Z.size = C ∧ ∀ W : World, (Instr.makeSlice 23 (.int .i64 0) (.int .i64 (C : Int))).run Try.prog W = .ok (.slice (some ⟨W.heap.size, 0, none⟩) 0 C) (W.alloc (.cells Z 5)) := by
  obtain ⟨i, hi, hz0, hz1, hz2⟩ := infoByte
  refine ⟨madeCells (Value.int .u8 0).cells (Int.toNat C * i.size), ?_, fun W => ?_⟩
  · rw [hz1, Nat.mul_one, Int.toNat_natCast, ← Array.length_toList]
    have := toList_madeCells_one (.int .u8 0) C
    exact (congrArg List.length this).trans (by simp)
  · have := run_make (P := Try.prog) W 23 5 i (.int .u8 0) Try.underlying23 hi hz0 .i64 .i64 0 C (by omega) (by omega) (by rw [hz2]; omega) (by omega)
    simpa using this
theorem Own.room (w : World) {C : Nat} {Z : Array Value} (hZ : Z.size = C) (hn : C ≤ 1000000000) : Own w (.slice (some ⟨w.heap.size, 0, none⟩) 0 C) [] (w.alloc (.cells Z 5)) :=
  ⟨⟨by simp, .inr ⟨w.heap.size, C, Z, by simp, Nat.zero_le _, heap_alloc_new w _, by simp, by unfold maxLen; omega, by rw [hZ]; simp, by simp⟩⟩, fun k hk => by simp [Value.ownBlock] at hk; omega, (Below.refl _ w).alloc (Nat.le_refl _) _⟩

/-- What is written, of ours; all else that was there in w2 stands. -/
structure PutSt (w1 w2 : World) (v : Value) (bs : List UInt8) (W : World) : Prop where
  own : Own w1 v bs W
  at' : ∀ k, v.ownBlock = some k → k = w1.heap.size ∨ w2.heap.size ≤ k
  keep : ∀ k, k ≠ w1.heap.size → k < w2.heap.size → W.heap[k]? = w2.heap[k]?
  size : w2.heap.size ≤ W.heap.size
theorem PutSt.later {w1 w2 W W' : World} {v : Value} {bs : List UInt8} (h : PutSt w1 w2 v bs W) (hb : Below W.heap.size W W') : PutSt w1 w2 v bs W' :=
  ⟨h.own.later hb, h.at', fun k h1 h2 => (hb.block k (by have := h.size; omega)).trans (h.keep k h1 h2), Nat.le_trans h.size hb.size⟩
theorem PutSt.grown {w1 w2 W W' : World} {v v' : Value} {bs cs : List UInt8} (h : PutSt w1 w2 v bs W) (r1 : W'.ownsRow 0 5 1 v' cs.length (cs.map bv)) (r2 : W.grownBy W' v.ownBlock) (r3 : v'.ownBlock = v.ownBlock ∨ ∃ k, v'.ownBlock = some k ∧ W.heap.size ≤ k) : PutSt w1 w2 v' cs W' := by
  refine ⟨h.own.grown r1 r2 r3, fun k hk => ?_, fun k h1 h2 => (r2.block k (by have := h.size; omega) fun e => ?_).trans (h.keep k h1 h2), Nat.le_trans h.size r2.size⟩
  · rcases r3 with e | ⟨k', e, hle⟩
    · exact h.at' k (by rw [← e]; exact hk)
    · rw [e] at hk; cases hk; have := h.size; exact .inr (by omega)
  · rcases h.at' k e.symm with e' | e'
    · exact h1 e'
    · omega

set_option maxRecDepth 100000 in
set_option maxHeartbeats 8000000 in
theorem landPut_any (u : Value) (rows : List (List UInt8)) (w : World) (h : RowsAt w u rows) : Calls Try.prog 11 #[u] w fun e w' => ∃ v, e = .returned (.tuple #[v, .int .i64 (bputErr rows)]) ∧ Bytes w' v (bputOf rows) ∧ Below w.heap.size w w' ∧ (bputOf rows ≠ [] → ∀ k, v.ownBlock = some k → w.heap.size ≤ k) := by
  have HH := hide h
  clear h
  go_enter Try.func11, Try.ntmps11
  go_wp2_with fail
  refine (landLong_any u rows _ (unhide HH)).mono ?_
  rintro e w1 ⟨rfl, hb⟩
  have HB1 := hide hb
  clear hb
  by_cases h0 : bputErr rows = 0
  · have HE0 := hide h0
    have hok := bputErr_zero.1 h0
    have HBO : Hid (bputOf rows = puts (recsOf rows)) := if_pos h0
    have HLE : Hid ((puts (recsOf rows)).length ≤ 1000000000) := by
      have h1 := dats_len hok.2
      have h2 := hok.1.2
      show _ ≤ _
      unfold recsOf
      rw [puts_snoc, List.length_append, put_len]
      show _ + (9 + 2) ≤ _
      omega
    have HOK := hide hok
    have HRL : Hid ((recsOf rows).length ≤ 1025) := by
      show _ ≤ _
      unfold recsOf
      rw [List.length_append, List.length_map, List.length_singleton]
      have := hok.1.2
      omega
    have HRR := hide (recsOf_right hok.2)
    rw [h0, unhide HBO]
    obtain ⟨C, hC⟩ : ∃ C, C = (puts (recsOf rows)).length := ⟨_, rfl⟩
    rw [← hC]
    obtain ⟨Z, hZ, hmk⟩ := makeRoom C (by rw [hC]; exact unhide HLE)
    have HO := hide (Own.room w1 hZ (by rw [hC]; exact unhide HLE))
    clear hok h0 hC hZ
    go_wp2_with fail
    refine (records_any u rows w1 _ ((unhide HH).later (unhide HB1)) ((Below.refl _ w1).alloc (Nat.le_refl _) _) (unhide HOK).1.2).mono ?_
    rintro e w2 ⟨v2, rfl, hR, hb2⟩
    obtain ⟨ra, rc, er, _⟩ := (hR w2 fun k _ _ => rfl).form
    subst er
    obtain ⟨rs, hrs⟩ : ∃ rs, rs = recsOf rows := ⟨_, rfl⟩
    rw [← hrs] at hR HBO HLE HRL HRR ⊢
    obtain ⟨N, hN⟩ : ∃ N, N = rs.length := ⟨_, rfl⟩
    rw [← hN] at hR HRL ⊢
    have HN := hide hN
    have HR := hide hR
    have HO2 : Hid (PutSt w1 w2 (.slice (some ⟨w1.heap.size, 0, none⟩) 0 C) [] w2) := ⟨(unhide HO).later hb2, fun k hk => .inl (by simpa [Value.ownBlock] using hk.symm), fun k _ _ => rfl, Nat.le_refl _⟩
    have HP2 : Hid (∀ j, (puts (rs.take j)).length ≤ (puts rs).length) := puts_len_take rs
    obtain ⟨ti, hti, hz0, hz1, hz2⟩ := infoByte
    have HRA : Hid (∀ (v : Value) (bs : List UInt8) (W : World), PutSt w1 w2 v bs W → RecsAt W (.slice ra N rc) rs) := fun v bs W hP => unhide HR W fun k hk hk2 => hP.keep k (by rw [World.size_alloc] at hk; omega) hk2
    clear hR hb2 hN hrs HO hmk HOK HR
    go_wp2_with fail
    have hNl : N ≤ 1025 := unhide HRL
    go_loopw [6, 24] (fun v i W => ∃ j : Nat, j ≤ N ∧ i = .int .i64 j ∧ PutSt w1 w2 v (puts (rs.take j)) W) (fun _ i _ => N - (intOf i).toNat)
    case atStart => exact ⟨0, Nat.zero_le _, rfl, by rw [List.take_zero]; exact unhide HO2⟩
    case round =>
      obtain ⟨j, hj, rfl, hO⟩ := hrel
      have HO := hide hO
      clear hO
      by_cases hlt : j < N
      · obtain ⟨b1, o1, d1, m1, k1, e1, x1, x2, x3⟩ := (unhide HRA _ _ _ (unhide HO)).at hlt (unhide HN).symm
        subst e1
        have i1 : (j : Int) < (N : Int) := by omega
        have e2j : j * 2 = 2 * j := by omega
        have X3 := hide x3
        have HSN := hide (take_snoc rs (j := j) (by have := unhide HN; omega))
        have HRJ : Hid ((rs.getD j ⟨0, []⟩).right) := unhide HRR _ (by have h := unhide HN; rw [List.getD_eq_getElem?_getD, List.getElem?_eq_getElem (by omega)]; exact List.getElem_mem _)
        clear x3
        generalize rs.getD j ⟨0, []⟩ = r at *
        go_upto_region 8 with fail
        have HT2 := hide ((unhide HO).later ((Below.refl _ wr).alloc (Nat.le_refl _) (.cells #[.int .u8 (r.k.toNat : Nat), .slice d1 m1 k1] 49)))
        have X4 := hide ((unhide X3).alloc (.cells #[.int .u8 (r.k.toNat : Nat), .slice d1 m1 k1] 49))
        clear HO X3 x1 x2
        go_wp2_with fail
        refine (recPut_any r d1 m1 k1 _ (unhide X4)).mono ?_
        rintro e w7 ⟨x7, rfl, hX, hb⟩
        have HT3 := hide ((unhide HT2).later hb)
        have HX := hide hX
        clear hX hb HT2 X4
        have h0 := putErr_zero.2 (unhide HRJ)
        have HPO : Hid (putOf r = r.put) := if_pos h0
        rw [h0]
        go_wp2_with (at_builtin; refine wpList_append_bytes _ rfl _ _ 23 rfl 5 ti (.int .u8 0) Try.underlying23 hti hz0 hz1 hz2 rfl _ _ rfl (unhide HT3).own.own _ _ rfl (unhide HX) (by rw [unhide HPO, ← List.length_append, ← puts_snoc, ← unhide HSN]; have := unhide HP2 (j + 1); have := unhide HLE; omega) ?_)
        rintro v8 w8 r1 r2 r3
        have HT4 : Hid (PutSt w1 w2 v8 (puts (rs.take (j + 1))) w8) := by
          have h := (unhide HT3).grown (cs := puts (rs.take j) ++ putOf r) (by simpa using r1) r2 r3
          rw [unhide HPO, ← puts_snoc, ← unhide HSN] at h
          exact h
        clear r1 r2 r3 HT3 HX
        go_wp2_with fail
        exact ⟨⟨j + 1, by omega, by go_num, unhide HT4⟩, by simp [intOf]; omega⟩
      · have ej : N = j := by omega
        subst ej
        have HTK : Hid (rs.take N = rs) := List.take_of_length_le (by rw [unhide HN]; exact Nat.le_refl _)
        rw [unhide HTK] at HO
        have HE : Hid (bputErr rows = 0) := unhide HE0
        go_wp2_with fail
        go_ret2
        refine ⟨_, by rw [unhide HE]; rfl, by rw [unhide HBO]; exact bytes_of_owns (unhide HO).own.own, (unhide HB1).trans ((unhide HO).own.bb.mono (unhide HB1).size), fun _ k hk => ?_⟩
        have h1 := (unhide HO).own.new k hk
        have h2 := (unhide HB1).size
        omega
  · have HBO : Hid (bputOf rows = []) := if_neg h0
    have h0' : (bputErr rows != 0) = true := bne_iff_ne.2 h0
    rw [unhide HBO]
    go_wp2_with fail
    go_ret2
    exact ⟨_, rfl, by rw [unhide HBO]; exact .inl ⟨rfl, rfl⟩, unhide HB1, fun h => absurd (unhide HBO) h⟩
end Go.Proofs.Ytbbglgfgelnncaa
