/- BatchImplRecs, JourKeep, HeadImplA, HeadImplB: our own definitions and contracts; no statement of the seat is proved here. -/
import Derived.Test.YtflfiobicapopaaBase07
import Derived.Test.YtflfiobicapopaaBase08
import Derived.Test.YtflfiobicapopaaBase04
import Derived.Test.YtflfiobicapopaaBase01
namespace Go.Proofs.Ytflfiobicapopaa
open Go.RowKit

/-- Records of ours, new since w, of bytes that were there in w0. -/
structure RecsH (w0 w : World) (v : Value) (rs : List RecD) (W : World) : Prop where
  own : ∃ xs, W.ownsRow w.heap.size 99 2 v rs.length xs ∧ xs.length = 2 * rs.length ∧ ∀ (i : Nat) r, rs[i]? = some r → ∃ a n c, xs[2 * i]? = some (.int .u8 (r.k.toNat : Nat)) ∧ xs[2 * i + 1]? = some (.slice a n c) ∧ Bytes w0 (.slice a n c) r.d
  bb : Below w.heap.size w W
theorem RecsH.start (w0 w : World) : RecsH w0 w (.slice none 0 0) [] w := ⟨⟨[], World.ownsRow_nil _ _ _ _, rfl, fun i x hx => (by cases hx)⟩, Below.refl _ w⟩
theorem RecsH.later {w0 w W W' : World} {v : Value} {rs : List RecD} (h : RecsH w0 w v rs W) (hb : Below W.heap.size W W') : RecsH w0 w v rs W' := by
  obtain ⟨⟨xs, h1, h2⟩, h3⟩ := h
  exact ⟨⟨xs, row_keeps h1 fun k hk => hb.block k (h1.lt k hk).2, h2⟩, h3.trans (hb.mono h3.size)⟩
theorem RecsH.form {w0 w W : World} {v : Value} {rs : List RecD} (h : RecsH w0 w v rs W) : ∃ a c, v = .slice a rs.length c := by
  obtain ⟨⟨xs, h1, _⟩, _⟩ := h
  rcases h1.2 with ⟨rfl, h0⟩ | ⟨g, cap, cur, rfl, _⟩
  · exact ⟨_, _, by rw [h0]⟩
  · exact ⟨_, _, rfl⟩
theorem cells_snoc {rs : List RecD} {xs : List Value} {E : Value → RecD → Prop} {r : RecD} {a' : Option Addr} {n' c' : Nat} (h0 : xs.length = 2 * rs.length) (h : ∀ (i : Nat) r, rs[i]? = some r → ∃ a n c, xs[2 * i]? = some (.int .u8 (r.k.toNat : Nat)) ∧ xs[2 * i + 1]? = some (.slice a n c) ∧ E (.slice a n c) r) (hE : E (.slice a' n' c') r) :
    ∀ (i : Nat) s, (rs ++ [r])[i]? = some s → ∃ a n c, (xs ++ recCells r (.slice a' n' c'))[2 * i]? = some (.int .u8 (s.k.toNat : Nat)) ∧ (xs ++ recCells r (.slice a' n' c'))[2 * i + 1]? = some (.slice a n c) ∧ E (.slice a n c) s := by
  intro i s hs
  by_cases hi : i < rs.length
  · rw [List.getElem?_append_left hi] at hs
    obtain ⟨a, n, c, h1, h2, h3⟩ := h i s hs
    exact ⟨a, n, c, by rw [List.getElem?_append_left (by omega)]; exact h1, by rw [List.getElem?_append_left (by omega)]; exact h2, h3⟩
  · have hi2 : i = rs.length := by have := (List.getElem?_eq_some_iff.1 hs).1; rw [List.length_append, List.length_singleton] at this; omega
    rw [hi2, List.getElem?_append_right (Nat.le_refl _), Nat.sub_self] at hs
    cases hs
    refine ⟨a', n', c', ?_, ?_, hE⟩
    · rw [hi2, ← h0, List.getElem?_append_right (Nat.le_refl _), Nat.sub_self]; rfl
    · rw [hi2, List.getElem?_append_right (by omega), show 2 * rs.length + 1 - xs.length = 1 by omega]; rfl
/-- One record more; whatever is kept of the bytes of all. -/
structure GrewRec (w0 w W : World) (v : Value) (rs : List RecD) (r : RecD) (u v' : Value) (W' : World) : Prop where
  row : ∃ xs, W'.ownsRow w.heap.size 99 2 v' (rs ++ [r]).length (xs ++ recCells r u) ∧ xs.length = 2 * rs.length ∧ ∀ (i : Nat) r, rs[i]? = some r → ∃ a n c, xs[2 * i]? = some (.int .u8 (r.k.toNat : Nat)) ∧ xs[2 * i + 1]? = some (.slice a n c) ∧ Bytes w0 (.slice a n c) r.d
  bb : Below w.heap.size w W'
  gr : W.grownBy W' v.ownBlock
theorem wpList_append_recE {w0 w W : World} {ops : Array Oper} {rest : List Oper} {op : Oper} {a : Act} {Q : Exit → Act → World → Prop}
    (hg : op.guard = none) (s x : Operand) (hop : op.op = Op.call { callee := Callee.builtin Builtin.append, args := #[s, x], argTypes := #[96, 96] })
    (v : Value) (rs : List RecD) (r : RecD) (a' : Option Addr) (n' c' g cap : Nat) (hsv : a.eval s = v) (hR : RecsH w0 w v rs W) (hx : a.eval x = .slice (some ⟨g, 0, none⟩) 1 cap)
    (h0 : W.cell? ⟨g, 0, none⟩ = some (.int .u8 (r.k.toNat : Nat))) (h1 : W.cell? ⟨g, 1, none⟩ = some (.slice a' n' c')) (hl : rs.length ≤ 1048576)
    (hK : ∀ v' W', GrewRec w0 w W v rs r (.slice a' n' c') v' W' → wpList Try.prog ops Q rest (a.put op.dst v') W') :
    wpList Try.prog ops Q (op :: rest) a W := by
  obtain ⟨i, z, hi, hz, hs, hb, hzs⟩ := infoRec
  obtain ⟨⟨xs, hrow, hxl, hcells⟩, hbb⟩ := hR
  refine wpList_append_own_at W hg s x 96 hop w.heap.size 99 i z 2 32 Try.underlying96 hi hz hs hb hzs (by decide) v rs.length xs hsv hrow ⟨g, 0, none⟩ 1 cap (recCells r (.slice a' n' c')) hx rfl
    (fun j u hj => by
      match j, hj with
      | 0, hj => cases hj; exact h0
      | 1, hj => cases hj; exact h1)
    (fun u hu => by
      have : u = .int .u8 (r.k.toNat : Nat) ∨ u = .slice a' n' c' := by simpa [recCells] using hu
      rcases this with rfl | rfl <;> rfl)
    (by unfold maxLen; omega) (by omega) hbb.size ?_
  intro v' W' r1 r2 _ _
  refine hK v' W' ⟨⟨xs, by rw [List.length_append]; exact r1, hxl, hcells⟩, ?_, r2⟩
  exact ⟨r2.os.trans hbb.os, r2.tape.trans hbb.tape, r2.output.trans hbb.output, Nat.le_trans hbb.size r2.size, fun k hk => (r2.block k (Nat.lt_of_lt_of_le hk hbb.size) (fun e => by have := (hrow.lt k e.symm).1; omega)).trans (hbb.block k hk)⟩
theorem recs_of_cells {W : World} {base : Nat} {v : Value} {rs : List RecD} {xs : List Value} (h1 : W.ownsRow base 99 2 v rs.length xs) (h : ∀ (i : Nat) r, rs[i]? = some r → ∃ a n c, xs[2 * i]? = some (.int .u8 (r.k.toNat : Nat)) ∧ xs[2 * i + 1]? = some (.slice a n c) ∧ Bytes W (.slice a n c) r.d) : RecsAt W v rs := by
  rcases h1.2 with ⟨rfl, h0⟩ | ⟨g, cap, cur, rfl, _, h3, h4, _⟩
  · exact .inl ⟨⟨_, _, rfl⟩, List.eq_nil_of_length_eq_zero h0⟩
  · refine .inr ⟨g, 0, cap, rfl, h4, fun i hi => ?_⟩
    have e : rs.getD i ⟨0, []⟩ = rs[i] := by rw [List.getD_eq_getElem?_getD, List.getElem?_eq_getElem hi]; rfl
    rw [e]
    obtain ⟨a, n, c, e1, e2, e3⟩ := h i _ (List.getElem?_eq_getElem hi)
    have hc := h1.cells (g := g) rfl
    refine ⟨a, n, c, ?_, ?_, e3⟩
    · have := hc _ _ e1; rwa [Addr.add_mid] at this
    · have := hc _ _ e2; rwa [Addr.add_mid] at this

/-- The records stand as long as what is older than w0, or younger than w, is not turned. -/
def RecsIn (w0 w w' : World) (v : Value) (rs : List RecD) : Prop := ∀ W' : World, (∀ k, (k < w0.heap.size ∨ w.heap.size ≤ k) → k < w'.heap.size → W'.heap[k]? = w'.heap[k]?) → RecsAt W' v rs

set_option maxRecDepth 100000 in
set_option maxHeartbeats 4000000 in
theorem records_any (u : Value) (rows : List (List UInt8)) (w0 w : World) (h : RowsAt w0 u rows) (hb0 : Below w0.heap.size w0 w) (hl : rows.length ≤ 1024) : Calls Try.prog 55 #[u] w fun e w' => ∃ v, e = .returned v ∧ RecsIn w0 w w' v (recsOf rows) ∧ Below w.heap.size w w' := by
  obtain ⟨a, c, rfl, _⟩ := h.form
  obtain ⟨n, hn⟩ : ∃ n, n = rows.length := ⟨_, rfl⟩
  rw [← hn] at h hl ⊢
  have HH := hide h
  have HN := hide hn
  have HB0 := hide hb0
  clear h hn hb0
  go_enter Try.func55, Try.ntmps55
  go_wp2_with fail
  go_loopw [3, 8] (fun v i W => ∃ j : Nat, j ≤ n ∧ i = .int .i64 j ∧ RecsH w0 w v ((rows.take j).map dat) W) (fun _ i _ => n - (intOf i).toNat)
  case atStart => exact ⟨0, Nat.zero_le _, rfl, RecsH.start w0 w⟩
  case round =>
    obtain ⟨j, hj, rfl, hO⟩ := hrel
    have HO := hide hO
    clear hO
    have HLL : Hid (((rows.take j).map dat).length ≤ 1048576) := by show _ ≤ _; rw [List.length_map, List.length_take]; omega
    by_cases hlt : j < n
    · obtain ⟨x, hx⟩ := some_get (xs := rows) (j := j) (by have := unhide HN; omega)
      obtain ⟨b1, o1, v1, e1, x1, x3⟩ := (unhide HH).at hx
      subst e1
      have hbw : Below w0.heap.size w0 wr := (unhide HB0).trans ((unhide HO).bb.mono (unhide HB0).size)
      have x2 := (hbw.cell (p := ⟨b1, o1 + j, none⟩) (World.block_lt_of_cell? _ _ x1)).trans x1
      obtain ⟨d1, k1, ed1, _⟩ := x3.form
      subst ed1
      have i1 : (j : Int) < (n : Int) := by omega
      have HMS := hide (map_take_succ hx)
      have X3 := hide x3
      clear x3 hx x1 hbw
      obtain ⟨nx, hnx⟩ : ∃ nx, nx = x.length := ⟨_, rfl⟩
      rw [← hnx] at x2 X3
      clear hnx
      obtain ⟨rj, hrj⟩ : ∃ rj, rj = (rows.take j).map dat := ⟨_, rfl⟩
      rw [← hrj] at HO HLL HMS
      clear hrj
      have HO2 := hide ((unhide HO).later ((Below.refl _ wr).alloc (Nat.le_refl _) (.cells #[.int .u8 1, .slice d1 nx k1] 99)))
      have HBK := hide (heap_alloc_new wr (.cells #[.int .u8 1, .slice d1 nx k1] 99))
      go_wp2_with (at_builtin; refine wpList_append_recE rfl _ _ rfl _ rj (dat x) d1 nx k1 wr.heap.size _ rfl (unhide HO2) rfl (cell_of_row _ _ 0 _ _ _ (unhide HBK)) (cell_of_row _ _ 1 _ _ _ (unhide HBK)) (unhide HLL) ?_)
      rintro v9 w9 hG
      have HG := hide hG
      clear hG
      have HO9 : Hid (RecsH w0 w v9 ((rows.take (j + 1)).map dat) w9) := by
        rw [unhide HMS]
        obtain ⟨⟨xs, r1, r2, r3⟩, r4, _⟩ := unhide HG
        exact ⟨⟨_, r1, by rw [List.length_append, List.length_append, r2]; show _ + 2 = 2 * (_ + 1); omega, cells_snoc (E := fun u r => Bytes w0 u r.d) r2 r3 (unhide X3)⟩, r4⟩
      clear HG HO HO2 HBK
      go_wp2_with fail
      exact ⟨⟨j + 1, by omega, by go_num, unhide HO9⟩, by simp [intOf]; omega⟩
    · have ej : n = j := by omega
      subst ej
      have HTK : Hid (rows.take n = rows) := List.take_of_length_le (by rw [unhide HN]; exact Nat.le_refl _)
      rw [unhide HTK] at HO HLL
      have HWS := hide (unhide HO).bb.size
      go_wp2_with fail
      refine (endOf_any n _).mono ?_
      rintro e w1 ⟨rfl, hB, hb⟩
      have HO1 := hide ((unhide HO).later hb)
      have HLT : Hid (∀ k, u3.ownBlock = some k → k < wr.heap.size) := by
        obtain ⟨⟨xs, h1, _⟩, _⟩ := unhide HO
        exact fun k hk => (h1.lt k hk).2
      have HO2 := hide ((unhide HO1).later ((Below.refl _ w1).alloc (Nat.le_refl _) (.cells #[.int .u8 2, .slice (some ⟨wr.heap.size, 0, none⟩) 2 2] 99)))
      have HBK := hide (heap_alloc_new w1 (.cells #[.int .u8 2, .slice (some ⟨wr.heap.size, 0, none⟩) 2 2] 99))
      have HB2 := hide (hB.alloc (.cells #[.int .u8 2, .slice (some ⟨wr.heap.size, 0, none⟩) 2 2] 99))
      obtain ⟨rj, hrj⟩ : ∃ rj, rj = rows.map dat := ⟨_, rfl⟩
      rw [← hrj] at HO2 HLL
      have HRE : Hid (recsOf rows = rj ++ [commit n]) := by show _ = _; unfold recsOf; rw [hrj, unhide HN]
      clear hB hb HO HO1 hrj
      go_wp2_with (at_builtin; refine wpList_append_recE rfl _ _ rfl _ rj (commit n) (some ⟨wr.heap.size, 0, none⟩) 2 2 w1.heap.size _ rfl (unhide HO2) rfl (cell_of_row _ _ 0 _ _ _ (unhide HBK)) (cell_of_row _ _ 1 _ _ _ (unhide HBK)) (unhide HLL) ?_)
      rintro v9 w9 hG
      have HG := hide hG
      clear hG
      have HF : Hid (RecsIn w0 w w9 v9 (rj ++ [commit n])) := by
        obtain ⟨⟨xs, r1, r2, r3⟩, r4, r5⟩ := unhide HG
        intro W' hW
        refine recs_of_cells (row_keeps r1 fun k hk => hW k (.inr (r1.lt k hk).1) (r1.lt k hk).2) (cells_snoc (E := fun u r => Bytes W' u r.d) r2 (fun i r hr => by
          obtain ⟨a, n, c, e1, e2, e3⟩ := r3 i r hr
          refine ⟨a, n, c, e1, e2, e3.kept fun k _ hk => ?_⟩
          have h1 := (unhide HB0).size
          have h2 := r4.size
          rw [hW k (.inl hk) (by omega), r4.block k (by omega), (unhide HB0).block k hk]) (((unhide HB2).kept (w' := w9) fun k hk hk2 => r5.block k hk2 fun e => by
            have := unhide HLT k e.symm
            simp [Value.ownBlock] at hk
            omega).kept fun k hk hk2 => hW k (.inr ?_) hk2))
        have := unhide HWS
        simp [Value.ownBlock] at hk
        omega
      have HB9 := hide (unhide HG).bb
      clear HG
      go_wp2_with fail
      go_ret
      exact ⟨_, rfl, by rw [unhide HRE]; exact unhide HF, unhide HB9⟩
end Go.Proofs.Ytflfiobicapopaa

namespace Go.Proofs.Ytflfiobicapopaa
open Go.RowKit

/-- make([]byte, 0, C). -/
theorem makeRoom (C : Nat) (hC : C ≤ 1000000000) : ∃ Z : Array Value, Z.size = C ∧ ∀ W : World, (Instr.makeSlice 49 (.int .i64 0) (.int .i64 (C : Int))).run Try.prog W = .ok (.slice (some ⟨W.heap.size, 0, none⟩) 0 C) (W.alloc (.cells Z 5)) := by
  obtain ⟨i, hi, hz0, hz1, hz2⟩ := infoByte
  refine ⟨madeCells (Value.int .u8 0).cells (Int.toNat C * i.size), ?_, fun W => ?_⟩
  · rw [hz1, Nat.mul_one, Int.toNat_natCast, ← Array.length_toList]
    have := toList_madeCells_one (.int .u8 0) C
    exact (congrArg List.length this).trans (by simp)
  · have := run_make (P := Try.prog) W 49 5 i (.int .u8 0) Try.underlying49 hi hz0 .i64 .i64 0 C (by omega) (by omega) (by rw [hz2]; omega) (by omega)
    simpa using this
theorem Own.room (w : World) {C : Nat} {Z : Array Value} (hZ : Z.size = C) (hn : C ≤ 1000000000) : Own w (.slice (some ⟨w.heap.size, 0, none⟩) 0 C) [] (w.alloc (.cells Z 5)) :=
  ⟨⟨by simp, .inr ⟨w.heap.size, C, Z, by simp, Nat.zero_le _, heap_alloc_new w _, by simp, by unfold maxLen; omega, by rw [hZ]; simp, by simp⟩⟩, fun k hk => by simp [Value.ownBlock] at hk; omega, (Below.refl _ w).alloc (Nat.le_refl _) _⟩

/-- What is written, of ours; all else that was there in w2 stands. -/
structure PutSt (w1 w2 : World) (v : Value) (bs : List UInt8) (W : World) : Prop where
  own : Own w1 v bs W
  at' : ∀ k, v.ownBlock = some k → k = w1.heap.size ∨ w2.heap.size ≤ k
  keep : ∀ k, k ≠ w1.heap.size → k < w2.heap.size → W.heap[k]? = w2.heap[k]?
  size : w2.heap.size ≤ W.heap.size
theorem PutSt.later {w1 w2 W W' : World} {v : Value} {bs : List UInt8} (h : PutSt w1 w2 v bs W) (hb : Below W.heap.size W W') : PutSt w1 w2 v bs W' :=
  ⟨h.own.later hb, h.at', fun k h1 h2 => (hb.block k (by have := h.size; omega)).trans (h.keep k h1 h2), Nat.le_trans h.size hb.size⟩
theorem PutSt.grown {w1 w2 W W' : World} {v v' : Value} {bs cs : List UInt8} (h : PutSt w1 w2 v bs W) (r1 : W'.ownsRow 0 5 1 v' cs.length (cs.map bv)) (r2 : W.grownBy W' v.ownBlock) (r3 : v'.ownBlock = v.ownBlock ∨ ∃ k, v'.ownBlock = some k ∧ W.heap.size ≤ k) : PutSt w1 w2 v' cs W' := by
  refine ⟨h.own.grown r1 r2 r3, fun k hk => ?_, fun k h1 h2 => (r2.block k (by have := h.size; omega) fun e => ?_).trans (h.keep k h1 h2), Nat.le_trans h.size r2.size⟩
  · rcases r3 with e | ⟨k', e, hle⟩
    · exact h.at' k (by rw [← e]; exact hk)
    · rw [e] at hk; cases hk; have := h.size; exact .inr (by omega)
  · rcases h.at' k e.symm with e' | e'
    · exact h1 e'
    · omega

set_option maxRecDepth 100000 in
set_option maxHeartbeats 8000000 in
theorem landPut_any (u : Value) (rows : List (List UInt8)) (w : World) (h : RowsAt w u rows) : Calls Try.prog 22 #[u] w fun e w' => ∃ v, e = .returned (.tuple #[v, .int .i64 (bputErr rows)]) ∧ Bytes w' v (bputOf rows) ∧ Below w.heap.size w w' ∧ (bputOf rows ≠ [] → ∀ k, v.ownBlock = some k → w.heap.size ≤ k) := by
  have HH := hide h
  clear h
  go_enter Try.func22, Try.ntmps22
  go_wp2_with fail
  refine (landLong_any u rows _ (unhide HH)).mono ?_
  rintro e w1 ⟨rfl, hb⟩
  have HB1 := hide hb
  clear hb
  by_cases h0 : bputErr rows = 0
  · have HE0 := hide h0
    have hok := bputErr_zero.1 h0
    have HBO : Hid (bputOf rows = puts (recsOf rows)) := if_pos h0
    have HLE : Hid ((puts (recsOf rows)).length ≤ 1000000000) := by
      have h1 := dats_len hok.2
      have h2 := hok.1.2
      show _ ≤ _
      unfold recsOf
      rw [puts_snoc, List.length_append, put_len]
      show _ + (9 + 2) ≤ _
      omega
    have HOK := hide hok
    have HRL : Hid ((recsOf rows).length ≤ 1025) := by
      show _ ≤ _
      unfold recsOf
      rw [List.length_append, List.length_map, List.length_singleton]
      have := hok.1.2
      omega
    have HRR := hide (recsOf_right hok.2)
    rw [h0, unhide HBO]
    obtain ⟨C, hC⟩ : ∃ C, C = (puts (recsOf rows)).length := ⟨_, rfl⟩
    rw [← hC]
    obtain ⟨Z, hZ, hmk⟩ := makeRoom C (by rw [hC]; exact unhide HLE)
    have HO := hide (Own.room w1 hZ (by rw [hC]; exact unhide HLE))
    clear hok h0 hC hZ
    go_wp2_with fail
    refine (records_any u rows w1 _ ((unhide HH).later (unhide HB1)) ((Below.refl _ w1).alloc (Nat.le_refl _) _) (unhide HOK).1.2).mono ?_
    rintro e w2 ⟨v2, rfl, hR, hb2⟩
    obtain ⟨ra, rc, er, _⟩ := (hR w2 fun k _ _ => rfl).form
    subst er
    obtain ⟨rs, hrs⟩ : ∃ rs, rs = recsOf rows := ⟨_, rfl⟩
    rw [← hrs] at hR HBO HLE HRL HRR ⊢
    obtain ⟨N, hN⟩ : ∃ N, N = rs.length := ⟨_, rfl⟩
    rw [← hN] at hR HRL ⊢
    have HN := hide hN
    have HR := hide hR
    have HO2 : Hid (PutSt w1 w2 (.slice (some ⟨w1.heap.size, 0, none⟩) 0 C) [] w2) := ⟨(unhide HO).later hb2, fun k hk => .inl (by simpa [Value.ownBlock] using hk.symm), fun k _ _ => rfl, Nat.le_refl _⟩
    have HP2 : Hid (∀ j, (puts (rs.take j)).length ≤ (puts rs).length) := puts_len_take rs
    obtain ⟨ti, hti, hz0, hz1, hz2⟩ := infoByte
    have HRA : Hid (∀ (v : Value) (bs : List UInt8) (W : World), PutSt w1 w2 v bs W → RecsAt W (.slice ra N rc) rs) := fun v bs W hP => unhide HR W fun k hk hk2 => hP.keep k (by rw [World.size_alloc] at hk; omega) hk2
    clear hR hb2 hN hrs HO hmk HOK HR
    go_wp2_with fail
    have hNl : N ≤ 1025 := unhide HRL
    go_loopw [6, 24] (fun v i W => ∃ j : Nat, j ≤ N ∧ i = .int .i64 j ∧ PutSt w1 w2 v (puts (rs.take j)) W) (fun _ i _ => N - (intOf i).toNat)
    case atStart => exact ⟨0, Nat.zero_le _, rfl, by rw [List.take_zero]; exact unhide HO2⟩
    case round =>
      obtain ⟨j, hj, rfl, hO⟩ := hrel
      have HO := hide hO
      clear hO
      by_cases hlt : j < N
      · obtain ⟨b1, o1, d1, m1, k1, e1, x1, x2, x3⟩ := (unhide HRA _ _ _ (unhide HO)).at hlt (unhide HN).symm
        subst e1
        have i1 : (j : Int) < (N : Int) := by omega
        have e2j : j * 2 = 2 * j := by omega
        have X3 := hide x3
        have HSN := hide (take_snoc rs (j := j) (by have := unhide HN; omega))
        have HRJ : Hid ((rs.getD j ⟨0, []⟩).right) := unhide HRR _ (by have h := unhide HN; rw [List.getD_eq_getElem?_getD, List.getElem?_eq_getElem (by omega)]; exact List.getElem_mem _)
        clear x3
        generalize rs.getD j ⟨0, []⟩ = r at *
        go_upto_region 8 with fail
        have HT2 := hide ((unhide HO).later ((Below.refl _ wr).alloc (Nat.le_refl _) (.cells #[.int .u8 (r.k.toNat : Nat), .slice d1 m1 k1] 99)))
        have X4 := hide ((unhide X3).alloc (.cells #[.int .u8 (r.k.toNat : Nat), .slice d1 m1 k1] 99))
        clear HO X3 x1 x2
        go_wp2_with fail
        refine (recPut_any r d1 m1 k1 _ (unhide X4)).mono ?_
        rintro e w7 ⟨x7, rfl, hX, hb⟩
        have HT3 := hide ((unhide HT2).later hb)
        have HX := hide hX
        clear hX hb HT2 X4
        have h0 := putErr_zero.2 (unhide HRJ)
        have HPO : Hid (putOf r = r.put) := if_pos h0
        rw [h0]
        go_wp2_with (at_builtin; refine wpList_append_bytes _ rfl _ _ 49 rfl 5 ti (.int .u8 0) Try.underlying49 hti hz0 hz1 hz2 rfl _ _ rfl (unhide HT3).own.own _ _ rfl (unhide HX) (by rw [unhide HPO, ← List.length_append, ← puts_snoc, ← unhide HSN]; have := unhide HP2 (j + 1); have := unhide HLE; omega) ?_)
        rintro v8 w8 r1 r2 r3
        have HT4 : Hid (PutSt w1 w2 v8 (puts (rs.take (j + 1))) w8) := by
          have h := (unhide HT3).grown (cs := puts (rs.take j) ++ putOf r) (by simpa using r1) r2 r3
          rw [unhide HPO, ← puts_snoc, ← unhide HSN] at h
          exact h
        clear r1 r2 r3 HT3 HX
        go_wp2_with fail
        exact ⟨⟨j + 1, by omega, by go_num, unhide HT4⟩, by simp [intOf]; omega⟩
      · have ej : N = j := by omega
        subst ej
        have HTK : Hid (rs.take N = rs) := List.take_of_length_le (by rw [unhide HN]; exact Nat.le_refl _)
        rw [unhide HTK] at HO
        have HE : Hid (bputErr rows = 0) := unhide HE0
        go_wp2_with fail
        go_ret2
        refine ⟨_, by rw [unhide HE]; rfl, by rw [unhide HBO]; exact bytes_of_owns (unhide HO).own.own, (unhide HB1).trans ((unhide HO).own.bb.mono (unhide HB1).size), fun _ k hk => ?_⟩
        have h1 := (unhide HO).own.new k hk
        have h2 := (unhide HB1).size
        omega
  · have HBO : Hid (bputOf rows = []) := if_neg h0
    have h0' : (bputErr rows != 0) = true := bne_iff_ne.2 h0
    rw [unhide HBO]
    go_wp2_with fail
    go_ret2
    exact ⟨_, rfl, by rw [unhide HBO]; exact .inl ⟨rfl, rfl⟩, unhide HB1, fun h => absurd (unhide HBO) h⟩
end Go.Proofs.Ytflfiobicapopaa

namespace Go.Proofs.Ytflfiobicapopaa
open Go.RowKit

/-- A slice of one-cell things; its block is of F. -/
def ListIn {α : Type} (F : Nat → Prop) (E : World → Value → α → Prop) (w : World) (u : Value) (xs : List α) : Prop := ((∃ a c, u = .slice a 0 c) ∧ xs = []) ∨ ∃ b o c, u = .slice (some ⟨b, o, none⟩) xs.length c ∧ xs.length ≤ c ∧ F b ∧
  ∀ i x, xs[i]? = some x → ∃ v, w.cell? ⟨b, o + i, none⟩ = some v ∧ E w v x
def BytesIn (F : Nat → Prop) (w : World) (u : Value) (bs : List UInt8) : Prop := Bytes w u bs ∧ (bs ≠ [] → ∀ k, u.ownBlock = some k → F k)
def RowsIn' (F : Nat → Prop) : World → Value → List (List UInt8) → Prop := ListIn F (BytesIn F)
def BatsIn (F : Nat → Prop) : World → Value → List (List (List UInt8)) → Prop := ListIn F (RowsIn' F)

section
variable {F F' : Nat → Prop} {w w' : World} {u : Value}
theorem ListIn.agree {α : Type} {E E' : World → Value → α → Prop} {xs : List α} (h : ListIn F E w u xs) (hE : ∀ v x, E w v x → E' w' v x) (hk : ∀ k, F k → w'.heap[k]? = w.heap[k]?) (hF : ∀ k, F k → F' k) : ListIn F' E' w' u xs := by
  rcases h with h | ⟨b, o, c, hv, hl, hb, hr⟩
  · exact .inl h
  · refine .inr ⟨b, o, c, hv, hl, hF b hb, fun i x hx => ?_⟩
    obtain ⟨v, h1, h2⟩ := hr i x hx
    exact ⟨v, (World.cell?_of_block (a := ⟨b, o + i, none⟩) (hk b hb)).trans h1, hE v x h2⟩
theorem BytesIn.agree {bs : List UInt8} (h : BytesIn F w u bs) (hk : ∀ k, F k → w'.heap[k]? = w.heap[k]?) (hF : ∀ k, F k → F' k) : BytesIn F' w' u bs := by
  obtain ⟨h1, h2⟩ := h
  refine ⟨?_, fun hne k e => hF k (h2 hne k e)⟩
  rcases h1 with h1 | ⟨q, c, rfl, a1, a2, hr⟩
  · exact .inl h1
  · refine .inr ⟨q, c, rfl, a1, a2, fun j x hx => ?_⟩
    have hne : bs ≠ [] := by rintro rfl; cases hx
    rw [World.cell?_of_block (w := w) (w' := w') (a := q.add j) (by rw [add_block]; exact hk _ (h2 hne _ rfl))]; exact hr j x hx
theorem RowsIn'.agree {xs : List (List UInt8)} (h : RowsIn' F w u xs) (hk : ∀ k, F k → w'.heap[k]? = w.heap[k]?) (hF : ∀ k, F k → F' k) : RowsIn' F' w' u xs := ListIn.agree h (fun _ _ e => BytesIn.agree e hk hF) hk hF
theorem BatsIn.agree {xs : List (List (List UInt8))} (h : BatsIn F w u xs) (hk : ∀ k, F k → w'.heap[k]? = w.heap[k]?) (hF : ∀ k, F k → F' k) : BatsIn F' w' u xs := ListIn.agree h (fun _ _ e => RowsIn'.agree e hk hF) hk hF
theorem ListIn.plain {α : Type} {E E' : World → Value → α → Prop} {xs : List α} (h : ListIn F E w u xs) (hE : ∀ v x, E w v x → E' w v x) : ListAt E' w u xs := by
  rcases h with h | ⟨b, o, c, hv, hl, _, hr⟩
  · exact .inl h
  · exact .inr ⟨b, o, c, hv, hl, fun i x hx => by obtain ⟨v, h1, h2⟩ := hr i x hx; exact ⟨v, h1, hE v x h2⟩⟩
theorem RowsIn'.plain {xs : List (List UInt8)} (h : RowsIn' F w u xs) : RowsAt w u xs := ListIn.plain (E := BytesIn F) (E' := Bytes) h fun _ _ e => e.1
theorem BatsIn.plain {xs : List (List (List UInt8))} (h : BatsIn F w u xs) : BatchesAt w u xs := ListIn.plain (E := RowsIn' F) (E' := RowsAt) h fun _ _ e => RowsIn'.plain e
theorem list_in {α : Type} {E E' : World → Value → α → Prop} {xs : List α} (h : ListAt E w u xs) (hE : ∀ v x, E w v x → E' w v x) (hF : ∀ k, k < w.heap.size → F k) : ListIn F E' w u xs := by
  cases xs with
  | nil => obtain ⟨a, c, e, _⟩ := h.form; exact .inl ⟨⟨a, c, e⟩, rfl⟩
  | cons y ys =>
    rcases h with ⟨_, h0⟩ | ⟨b, o, c, hv, hl, hr⟩
    · cases h0
    · obtain ⟨v0, c0, _⟩ := hr 0 y rfl
      exact .inr ⟨b, o, c, hv, hl, hF b (World.block_lt_of_cell? _ _ c0), fun i x hx => by obtain ⟨v, h1, h2⟩ := hr i x hx; exact ⟨v, h1, hE v x h2⟩⟩
theorem bytes_in {bs : List UInt8} (h : Bytes w u bs) (hF : ∀ k, k < w.heap.size → F k) : BytesIn F w u bs := ⟨h, fun hne k e => hF k (h.lt hne k e)⟩
theorem rows_in {xs : List (List UInt8)} (h : RowsAt w u xs) (hF : ∀ k, k < w.heap.size → F k) : RowsIn' F w u xs := list_in (E := Bytes) (E' := BytesIn F) h (fun _ _ e => bytes_in e hF) hF
theorem bats_in {xs : List (List (List UInt8))} (h : BatchesAt w u xs) (hF : ∀ k, k < w.heap.size → F k) : BatsIn F w u xs := list_in (E := RowsAt) (E' := RowsIn' F) h (fun _ _ e => rows_in e hF) hF
end

/-- What a value reads as. -/
inductive Thing where
  | bytes (b : List UInt8)
  | rows (r : List (List UInt8))
  | bats (l : List (List (List UInt8)))
def Thing.In (F : Nat → Prop) (w : World) (u : Value) : Thing → Prop
  | .bytes b => BytesIn F w u b
  | .rows r => RowsIn' F w u r
  | .bats l => BatsIn F w u l
theorem Thing.In.agree {F F' : Nat → Prop} {w w' : World} {u : Value} {t : Thing} (h : t.In F w u) (hk : ∀ k, F k → w'.heap[k]? = w.heap[k]?) (hF : ∀ k, F k → F' k) : t.In F' w' u := by
  cases t with
  | bytes b => exact BytesIn.agree h hk hF
  | rows r => exact RowsIn'.agree h hk hF
  | bats l => exact BatsIn.agree h hk hF

/-- A disk at p that holds what A tells; blocks M of our own; what values L read as, in memory that is neither the disk's nor M's; all that was there in w is as it was. -/
structure Kj (w W : World) (L : List (Value × Thing)) (M : List (Nat × Obj)) (p : Nat) (A : AD) : Prop where
  bb : Below w.heap.size w W
  ce : ∀ q ∈ M, W.heap[q.1]? = some q.2
  nd : (M.map Prod.fst).Nodup
  hi : ∀ q ∈ M, w.heap.size ≤ q.1
  dsk : ∃ D v F, DiskIs W p D v A ∧ (∀ k, D k → w.heap.size ≤ k) ∧ (∀ q ∈ M, ¬ D q.1 ∧ ¬ F q.1) ∧ (∀ k, F k → k < W.heap.size ∧ ¬ D k) ∧ (∀ k, k < w.heap.size → F k) ∧ ∀ q ∈ L, q.2.In F W q.1

section
variable {w W W' : World} {L : List (Value × Thing)} {M : List (Nat × Obj)} {p : Nat} {A : AD}
theorem Kj.start (hw : Below w.heap.size w W) (hn : Now (fun k => k = p) p A W' W') (hp : p = W.heap.size) (hb : Below p W W') : Kj w W' [] [] p A := by
  subst hp
  obtain ⟨D', v, h1, h2⟩ := hn
  have hD : ∀ k, D' k → k = W.heap.size ∨ W'.heap.size ≤ k := fun k hk => h2.own k hk
  have hD2 : ∀ k, D' k → w.heap.size ≤ k := fun k hk => by have := hw.size; have := hb.size; rcases hD k hk with e | e <;> omega
  refine ⟨hw.trans (hb.mono hw.size), fun q hq => (by cases hq), List.nodup_nil, fun q hq => (by cases hq), D', v, fun k => k < w.heap.size, h1, hD2, fun q hq => (by cases hq), fun k hk => ⟨?_, fun hd => ?_⟩, fun k hk => hk, fun q hq => (by cases hq)⟩
  · have := hw.size; have := hb.size; omega
  · have := hD2 k hd; omega
theorem Kj.lt (h : Kj w W L M p A) : ∀ q ∈ M, q.1 < W.heap.size := fun q hq => (Array.getElem?_eq_some_iff.1 (h.ce q hq)).1
theorem Kj.later (h : Kj w W L M p A) (hb : Below W.heap.size W W') : Kj w W' L M p A := by
  obtain ⟨D, v, F, h1, h2, h3, h4, h5, h6⟩ := h.dsk
  exact ⟨h.bb.trans (hb.mono h.bb.size), fun q hq => (hb.block _ (h.lt q hq)).trans (h.ce q hq), h.nd, h.hi, D, v, F, h1.kept hb.size fun k hk => hb.block k (h1.lt k hk), h2, h3, fun k hk => ⟨Nat.lt_of_lt_of_le (h4 k hk).1 hb.size, (h4 k hk).2⟩, h5, fun q hq => (h6 q hq).agree (fun k hk => hb.block k (h4 k hk).1) fun _ hk => hk⟩
theorem Kj.new (h : Kj w W L M p A) (o : Obj) : Kj w (W.alloc o) L ((W.heap.size, o) :: M) p A := by
  have h' := h.later ((Below.refl _ W).alloc (Nat.le_refl _) o)
  obtain ⟨D, v, F, h1, h2, h3, h4, h5, h6⟩ := h.dsk
  have hlt := h.lt
  refine ⟨h'.bb, fun q hq => ?_, ?_, fun q hq => ?_, D, v, F, h1.alloc _, h2, fun q hq => ?_, fun k hk => ⟨by have := (h4 k hk).1; simp; omega, (h4 k hk).2⟩, h5, fun q hq => (h6 q hq).agree (fun k hk => Below.heap_alloc _ _ _ (h4 k hk).1) fun _ hk => hk⟩
  · rcases List.mem_cons.1 hq with e | e
    · rw [e]; exact heap_alloc_new W _
    · exact h'.ce q e
  · refine List.nodup_cons.2 ⟨fun hm => ?_, h.nd⟩
    obtain ⟨q, hq, e⟩ := List.mem_map.1 hm
    have := hlt q hq
    have e' : q.1 = W.heap.size := e
    omega
  · rcases List.mem_cons.1 hq with e | e
    · rw [e]; exact h.bb.size
    · exact h.hi q e
  · rcases List.mem_cons.1 hq with e | e
    · rw [e]; exact ⟨fun hd => Nat.lt_irrefl _ (h1.lt _ hd), fun hf => Nat.lt_irrefl _ (h4 _ hf).1⟩
    · exact h3 q e
theorem Kj.sub {M' : List (Nat × Obj)} (h : Kj w W L M p A) (hs : M'.Sublist M) : Kj w W L M' p A := by
  obtain ⟨D, v, F, h1, h2, h3, h4, h5, h6⟩ := h.dsk
  exact ⟨h.bb, fun q hq => h.ce q (hs.subset hq), h.nd.sublist (hs.map _), fun q hq => h.hi q (hs.subset hq), D, v, F, h1, h2, fun q hq => h3 q (hs.subset hq), h4, h5, h6⟩
theorem Kj.drop (h : Kj w W L M p A) (n : Nat) : Kj w W L (M.drop n) p A := h.sub (List.drop_sublist n M)
theorem Kj.perm {M' : List (Nat × Obj)} (h : Kj w W L M p A) (hs : M.Perm M') : Kj w W L M' p A := by
  obtain ⟨D, v, F, h1, h2, h3, h4, h5, h6⟩ := h.dsk
  exact ⟨h.bb, fun q hq => h.ce q (hs.mem_iff.2 hq), (hs.map Prod.fst).nodup_iff.1 h.nd, fun q hq => h.hi q (hs.mem_iff.2 hq), D, v, F, h1, h2, fun q hq => h3 q (hs.mem_iff.2 hq), h4, h5, h6⟩
theorem Kj.lessL {L' : List (Value × Thing)} (h : Kj w W L M p A) (hs : ∀ q ∈ L', q ∈ L) : Kj w W L' M p A := by
  obtain ⟨D, v, F, h1, h2, h3, h4, h5, h6⟩ := h.dsk
  exact ⟨h.bb, h.ce, h.nd, h.hi, D, v, F, h1, h2, h3, h4, h5, fun q hq => h6 q (hs q hq)⟩
/-- A call of the disk. -/
theorem Kj.step (h : Kj w W L M p A) : ∃ D v F, DiskIs W p D v A ∧ (∀ q ∈ M, ¬ D q.1) ∧ (∀ k, F k → k < W.heap.size ∧ ¬ D k) ∧ (∀ q ∈ L, q.2.In F W q.1) ∧ ∀ A' W', Now D p A' W W' → Kj w W' L M p A' := by
  obtain ⟨D, v, F, h1, h2, h3, h4, h5, h6⟩ := h.dsk
  refine ⟨D, v, F, h1, fun q hq => (h3 q hq).1, h4, h6, fun A' W' hn => ?_⟩
  have hb : Below w.heap.size w W' := h.bb.trans (hn.toBelow h.bb.size h2)
  obtain ⟨D', v', k1, k2⟩ := hn
  have hlt := h.lt
  refine ⟨hb, fun q hq => (k2.block _ (hlt q hq) (h3 q hq).1).trans (h.ce q hq), h.nd, h.hi, D', v', F, k1, fun k hk => ?_, fun q hq => ⟨k2.notOwn (hlt q hq) (h3 q hq).1, (h3 q hq).2⟩, fun k hk => ⟨Nat.lt_of_lt_of_le (h4 k hk).1 k2.size, k2.notOwn (h4 k hk).1 (h4 k hk).2⟩, h5, fun q hq => (h6 q hq).agree (fun k hk => k2.block k (h4 k hk).1 (h4 k hk).2) fun _ hk => hk⟩
  rcases k2.own k hk with e | e
  · exact h2 k e
  · exact Nat.le_trans h.bb.size e
/-- What is new reads as something. -/
theorem Kj.add (h : Kj w W L M p A) (hb : Below W.heap.size W W') (v : Value) (t : Thing) (hQ : ∀ F : Nat → Prop, (∀ k, F k → k < W.heap.size) → (∀ k, k < w.heap.size → F k) → (∀ q ∈ L, q.2.In F W q.1) → t.In (fun k => F k ∨ (W.heap.size ≤ k ∧ k < W'.heap.size)) W' v) : Kj w W' ((v, t) :: L) M p A := by
  have h' := h.later hb
  obtain ⟨D, vd, F, h1, h2, h3, h4, h5, h6⟩ := h.dsk
  have hlt := h.lt
  refine ⟨h'.bb, h'.ce, h.nd, h.hi, D, vd, fun k => F k ∨ (W.heap.size ≤ k ∧ k < W'.heap.size), h1.kept hb.size fun k hk => hb.block k (h1.lt k hk), h2, fun q hq => ⟨(h3 q hq).1, fun hf => ?_⟩, fun k hk => ?_, fun k hk => .inl (h5 k hk), fun q hq => ?_⟩
  · rcases hf with hf | hf
    · exact (h3 q hq).2 hf
    · have := hlt q hq; omega
  · rcases hk with hk | hk
    · exact ⟨Nat.lt_of_lt_of_le (h4 k hk).1 hb.size, (h4 k hk).2⟩
    · exact ⟨hk.2, fun hd => by have := h1.lt k hd; omega⟩
  · rcases List.mem_cons.1 hq with e | e
    · rw [e]; exact hQ F (fun k hk => (h4 k hk).1) h5 h6
    · exact (h6 q e).agree (fun k hk => hb.block k (h4 k hk).1) fun _ hk => .inl hk
/-- What was there in w reads as something. -/
theorem Kj.arg (h : Kj w W L M p A) (v : Value) (t : Thing) (hQ : ∀ F : Nat → Prop, (∀ k, k < w.heap.size → F k) → t.In F w v) : Kj w W ((v, t) :: L) M p A := by
  obtain ⟨D, vd, F, h1, h2, h3, h4, h5, h6⟩ := h.dsk
  refine ⟨h.bb, h.ce, h.nd, h.hi, D, vd, F, h1, h2, h3, h4, h5, fun q hq => ?_⟩
  rcases List.mem_cons.1 hq with e | e
  · rw [e]
    exact (hQ (fun k => k < w.heap.size) fun _ hk => hk).agree (fun k hk => h.bb.block k hk) h5
  · exact h6 q e
theorem Kj.at (h : Kj w W L M p A) {v : Value} {t : Thing} (hm : (v, t) ∈ L) : ∃ F : Nat → Prop, t.In F W v := by
  obtain ⟨D, vd, F, h1, h2, h3, h4, h5, h6⟩ := h.dsk
  exact ⟨F, h6 _ hm⟩
theorem Kj.byt (h : Kj w W L M p A) {v : Value} {b : List UInt8} (hm : (v, Thing.bytes b) ∈ L) : Bytes W v b := by obtain ⟨F, hF⟩ := h.at hm; exact hF.1
theorem Kj.row (h : Kj w W L M p A) {v : Value} {b : List (List UInt8)} (hm : (v, Thing.rows b) ∈ L) : RowsAt W v b := by obtain ⟨F, hF⟩ := h.at hm; exact RowsIn'.plain hF
theorem Kj.bat (h : Kj w W L M p A) {v : Value} {b : List (List (List UInt8))} (hm : (v, Thing.bats b) ∈ L) : BatchesAt W v b := by obtain ⟨F, hF⟩ := h.at hm; exact BatsIn.plain hF
theorem Kj.cell (h : Kj w W L M p A) {g : Nat} {cs : Array Value} {t : TypeId} (hm : (g, Obj.cells cs t (0, 0)) ∈ M) (k : Nat) : W.cell? ⟨g, k, none⟩ = cs[k]? := cell_of_row _ _ k _ _ _ (h.ce _ hm)
theorem Kj.frozen (h : Kj w W L M p A) {g : Nat} {cs : Array Value} {t : TypeId} (hm : (g, Obj.cells cs t (0, 0)) ∈ M) (k : Nat) : W.frozen? ⟨g, k, none⟩ = false := frozen_of_row _ _ _ _ _ (h.ce _ hm)
theorem mem_set_of {α : Type} {l : List α} {i : Nat} {x q : α} (h : q ∈ l.set i x) : q = x ∨ ∃ j, j ≠ i ∧ l[j]? = some q := by
  obtain ⟨j, hj, e⟩ := List.getElem_of_mem h
  by_cases hij : i = j
  · subst hij; rw [List.getElem_set_self] at e; exact .inl e.symm
  · rw [List.getElem_set_ne hij] at e
    exact .inr ⟨j, fun e' => hij e'.symm, by rw [← e, List.getElem?_eq_getElem]⟩
theorem map_fst_set {β : Type} {l : List (Nat × β)} {i g : Nat} {o o' : β} (hi : l[i]? = some (g, o)) : (l.set i (g, o')).map Prod.fst = l.map Prod.fst := by
  apply List.ext_getElem?
  intro j
  rw [List.getElem?_map, List.getElem?_map, List.getElem?_set]
  by_cases hij : i = j
  · subst hij
    have := (List.getElem?_eq_some_iff.1 hi).1
    rw [if_pos rfl, if_pos this, hi]; rfl
  · rw [if_neg hij]
/-- A store into a block of ours. -/
theorem Kj.set (h : Kj w W L M p A) (i : Nat) {g : Nat} {cs : Array Value} {t : TypeId} (hi : M[i]? = some (g, Obj.cells cs t (0, 0))) (k : Nat) (x : Value) : Kj w (W.setCell ⟨g, k, none⟩ x) L (M.set i (g, Obj.cells (cs.setIfInBounds k x) t (0, 0))) p A := by
  obtain ⟨D, v, F, h1, h2, h3, h4, h5, h6⟩ := h.dsk
  have hm : (g, Obj.cells cs t (0, 0)) ∈ M := List.mem_of_getElem? hi
  have hn := h3 _ hm
  have hne : ∀ j q, j ≠ i → M[j]? = some q → q.1 ≠ g := fun j q hj hq e => by
    obtain ⟨a1, a2⟩ := List.getElem?_eq_some_iff.1 hq
    obtain ⟨b1, b2⟩ := List.getElem?_eq_some_iff.1 hi
    have hp := List.pairwise_iff_getElem.1 h.nd
    have ej : (M.map Prod.fst)[j]'(by rw [List.length_map]; exact a1) = g := by rw [List.getElem_map, a2]; exact e
    have ei : (M.map Prod.fst)[i]'(by rw [List.length_map]; exact b1) = g := by rw [List.getElem_map, b2]
    rcases Nat.lt_or_gt_of_ne hj with hl | hl
    · exact hp j i (by rw [List.length_map]; exact a1) (by rw [List.length_map]; exact b1) hl (ej.trans ei.symm)
    · exact hp i j (by rw [List.length_map]; exact b1) (by rw [List.length_map]; exact a1) hl (ei.trans ej.symm)
  refine ⟨h.bb.setCell (p := ⟨g, k, none⟩) (h.hi _ hm) x, fun q hq => ?_, by rw [map_fst_set hi]; exact h.nd, fun q hq => ?_, D, v, F, h1.kept (by simp [World.setCell]) fun j hj => Below.heap_setCell _ _ _ _ (fun e => hn.1 (show D g from (show j = g from e) ▸ hj)), h2, fun q hq => ?_, fun j hj => ⟨by simpa [World.setCell] using (h4 j hj).1, (h4 j hj).2⟩, h5, fun q hq => (h6 q hq).agree (fun j hj => Below.heap_setCell _ _ _ _ (fun e => hn.2 (show F g from (show j = g from e) ▸ hj))) fun _ hk => hk⟩
  · rcases mem_set_of hq with e | ⟨j, hj, e⟩
    · rw [e]; exact heap_setCell_same W g k _ _ x (h.ce _ hm)
    · rw [Below.heap_setCell _ _ _ _ (hne j q hj e)]; exact h.ce q (List.mem_of_getElem? e)
  · rcases mem_set_of hq with e | ⟨j, hj, e⟩
    · rw [e]; exact h.hi (g, Obj.cells cs t (0, 0)) hm
    · exact h.hi q (List.mem_of_getElem? e)
  · rcases mem_set_of hq with e | ⟨j, hj, e⟩
    · rw [e]; exact hn
    · exact h3 q (List.mem_of_getElem? e)
theorem set_get {α : Type} {l : List α} {i : Nat} {x y : α} (h : l[i]? = some y) : (l.set i x)[i]? = some x := by
  rw [List.getElem?_set_self (List.getElem?_eq_some_iff.1 h).1]
/-- A head is stored into a block of ours. -/
theorem Kj.set3 (h : Kj w W L M p A) (i : Nat) {g : Nat} {cs : Array Value} {t : TypeId} (hi : M[i]? = some (g, Obj.cells cs t (0, 0))) (o : Nat) (x y z : Value) : Kj w (((W.setCell ⟨g, o, none⟩ x).setCell ⟨g, o + 1, none⟩ y).setCell ⟨g, o + 2, none⟩ z) L (M.set i (g, Obj.cells (((cs.setIfInBounds o x).setIfInBounds (o + 1) y).setIfInBounds (o + 2) z) t (0, 0))) p A := by
  have h1 := h.set i hi o x
  have i1 := set_get (x := (g, Obj.cells (cs.setIfInBounds o x) t (0, 0))) hi
  have h2 := h1.set i i1 (o + 1) y
  have i2 := set_get (x := (g, Obj.cells ((cs.setIfInBounds o x).setIfInBounds (o + 1) y) t (0, 0))) i1
  have h3 := h2.set i i2 (o + 2) z
  rw [List.set_set, List.set_set] at h3
  exact h3
end
end Go.Proofs.Ytflfiobicapopaa

namespace Go.Proofs.Ytflfiobicapopaa
open Go.RowKit

theorem or_add64 (x y k : Nat) (h : x < 2 ^ k) : x ||| (2 ^ k * y) = x + 2 ^ k * y := by
  rw [Nat.or_comm, ← Nat.two_pow_add_eq_or_of_lt h, Nat.add_comm]

/-- The first bytes' number. -/
theorem le_take_succ8 (bs : List UInt8) (j : Nat) (h : j < bs.length) : le (bs.take (j + 1)) = le (bs.take j) + 2 ^ (8 * j) * (bs.getD j 0).toNat := by
  induction j generalizing bs with
  | zero =>
    match bs, h with
    | b :: bs, _ => simp [le]
  | succ j ih =>
    match bs, h with
    | b :: bs, h =>
      have h2 : j < bs.length := by simpa using h
      have e := ih bs h2
      show b.toNat + 256 * le (bs.take (j + 1)) = b.toNat + 256 * le (bs.take j) + 2 ^ (8 * (j + 1)) * (bs.getD j 0).toNat
      rw [e, Nat.mul_add, show 8 * (j + 1) = 8 + 8 * j by omega, Nat.pow_add, Nat.mul_assoc, Nat.add_assoc]

theorem number_step8 (bs : List UInt8) (j : Nat) (h : j < bs.length) (hj : j < 8) : bits .or .u64 ((le (bs.take j) : Nat) : Int) ((((bs.getD j 0).toNat * 2 ^ (8 * j) : Nat) : Int)) = ((le (bs.take (j + 1)) : Nat) : Int) := by
  have h1 := le_lt (bs.take j)
  have hl : (bs.take j).length = j := by rw [List.length_take]; omega
  rw [hl] at h1
  have hb := (bs.getD j 0).toNat_lt
  have h2 : le (bs.take j) < 18446744073709551616 := Nat.lt_of_lt_of_le h1 (by rw [show 18446744073709551616 = 2 ^ 64 by decide]; exact Nat.pow_le_pow_right (by decide) (by omega))
  have h3 : (bs.getD j 0).toNat * 2 ^ (8 * j) < 18446744073709551616 := by
    have : (bs.getD j 0).toNat * 2 ^ (8 * j) < 2 ^ 8 * 2 ^ (8 * j) := Nat.mul_lt_mul_of_pos_right (by omega) (Nat.two_pow_pos _)
    rw [← Nat.pow_add] at this
    exact Nat.lt_of_lt_of_le this (by rw [show 18446744073709551616 = 2 ^ 64 by decide]; exact Nat.pow_le_pow_right (by decide) (by omega))
  rw [le_take_succ8 bs j h]
  have := u64_or_nat (le (bs.take j)) ((bs.getD j 0).toNat * 2 ^ (8 * j)) h2 h3
  rw [this, Nat.mul_comm (bs.getD j 0).toNat, or_add64 _ _ _ h1]

set_option maxRecDepth 100000 in
set_option maxHeartbeats 4000000 in
theorem hNumber_any (a : Option Addr) (c : Nat) (bs : List UInt8) (w : World) (h : Bytes w (.slice a 8 c) bs) : Calls Try.prog 99 #[.slice a 8 c] w fun e w' => e = .returned (.int .u64 (le bs : Nat)) ∧ w' = w := by
  have hl := (bytes_len h).1
  have HL := hide hl
  obtain ⟨bb, o, rfl, hsp⟩ := h.spot (by omega)
  have HH := hide hsp
  have HT : Hid (bs.take 8 = bs) := by show _ = _; rw [List.take_of_length_le (by omega)]
  clear h hl hsp
  go_enter Try.func99, Try.ntmps99
  go_wp2_with fail
  go_loopw [3, 7] (fun x i W => ∃ j : Nat, j ≤ 8 ∧ i = .int .i64 j ∧ x = .int .u64 ((le (bs.take j) : Nat) : Int) ∧ W = w) (fun _ i _ => 8 - (intOf i).toNat)
  case atStart => exact ⟨0, by omega, rfl, by simp [le], rfl⟩
  case round =>
    obtain ⟨j, hj, rfl, rfl, rfl⟩ := hrel
    by_cases hlt : j < 8
    · have hc := unhide HH j (by omega)
      have HS := hide (number_step8 bs j (by have := unhide HL; omega) hlt)
      have hy := (bs.getD j 0).toNat_lt
      generalize (bs.getD j 0).toNat = y at *
      generalize le (bs.take j) = x at *
      rcases (show j = 0 ∨ j = 1 ∨ j = 2 ∨ j = 3 ∨ j = 4 ∨ j = 5 ∨ j = 6 ∨ j = 7 by omega) with rfl | rfl | rfl | rfl | rfl | rfl | rfl | rfl
      · rw [Nat.add_zero] at hc
        go_wp2_with fail
        exact ⟨⟨1, by omega, rfl, by rw [← unhide HS]; simp, trivial⟩, by simp [intOf]⟩
      · go_wp2_with fail
        exact ⟨⟨2, by omega, rfl, by rw [← unhide HS]; simp, trivial⟩, by simp [intOf]⟩
      · go_wp2_with fail
        exact ⟨⟨3, by omega, rfl, by rw [← unhide HS]; simp, trivial⟩, by simp [intOf]⟩
      · go_wp2_with fail
        exact ⟨⟨4, by omega, rfl, by rw [← unhide HS]; simp, trivial⟩, by simp [intOf]⟩
      · go_wp2_with fail
        exact ⟨⟨5, by omega, rfl, by rw [← unhide HS]; simp, trivial⟩, by simp [intOf]⟩
      · go_wp2_with fail
        exact ⟨⟨6, by omega, rfl, by rw [← unhide HS]; simp, trivial⟩, by simp [intOf]⟩
      · go_wp2_with fail
        exact ⟨⟨7, by omega, rfl, by rw [← unhide HS]; simp, trivial⟩, by simp [intOf]⟩
      · go_wp2_with fail
        exact ⟨⟨8, by omega, rfl, by rw [← unhide HS]; simp, trivial⟩, by simp [intOf]⟩
    · have e : j = 8 := by omega
      subst e
      rw [unhide HT]
      go_wp2_with fail
      go_ret
      exact ⟨rfl, rfl⟩

/-- An array of bytes in a block that is new since w0. -/
structure Arr (w0 : World) (g : Nat) (bs : List UInt8) (W : World) : Prop where
  blk : W.heap[g]? = some (.cells (bs.map bv).toArray 72 (0, 0))
  new : w0.heap.size ≤ g
  bb : Below w0.heap.size w0 W
theorem Arr.lt {w0 W : World} {g : Nat} {bs : List UInt8} (h : Arr w0 g bs W) : g < W.heap.size := (Array.getElem?_eq_some_iff.1 h.blk).1
theorem Arr.later {w0 W W' : World} {g : Nat} {bs : List UInt8} (h : Arr w0 g bs W) (hb : Below W.heap.size W W') : Arr w0 g bs W' := ⟨(hb.block _ h.lt).trans h.blk, h.new, h.bb.trans (hb.mono h.bb.size)⟩
theorem Arr.drew {w0 W : World} {g : Nat} {bs : List UInt8} (h : Arr w0 g bs W) : Arr w0 g bs W.drew := h.later (Below.refl _ W).drew
theorem Arr.drewN {w0 W : World} {g : Nat} {bs : List UInt8} (h : Arr w0 g bs W) (n : Nat) : Arr w0 g bs (W.drewN n) := h.later (below_drewN W n)
theorem Arr.alloc {w0 W : World} {g : Nat} {bs : List UInt8} (h : Arr w0 g bs W) (o : Obj) : Arr w0 g bs (W.alloc o) := h.later ((Below.refl _ W).alloc (Nat.le_refl _) _)
theorem Arr.cell {w0 W : World} {g : Nat} {bs : List UInt8} (h : Arr w0 g bs W) {k : Nat} (hk : k < bs.length) : W.cell? ⟨g, k, none⟩ = some (.int .u8 ((bs.getD k 0).toNat : Nat)) :=
  cell_of_row _ _ k _ _ _ h.blk |>.trans (by simp [hk, bv])
theorem Arr.frozen {w0 W : World} {g : Nat} {bs : List UInt8} (h : Arr w0 g bs W) (k : Nat) : W.frozen? ⟨g, k, none⟩ = false := frozen_of_row _ _ _ _ _ h.blk
theorem Arr.put {w0 W : World} {g : Nat} {bs : List UInt8} (h : Arr w0 g bs W) {k : Nat} (_hk : k < bs.length) (y : Nat) (hy : y < 256) : Arr w0 g (bs.set k (UInt8.ofNat y)) (W.setCell ⟨g, k, none⟩ (.int .u8 ((y : Nat) : Int))) := by
  refine ⟨?_, h.new, h.bb.setCell (p := ⟨g, k, none⟩) h.new _⟩
  have e := heap_setCell_same W g k _ _ (.int .u8 ((y : Nat) : Int)) h.blk
  rw [e, List.map_set]
  have e2 : bv (UInt8.ofNat y) = .int .u8 ((y : Nat) : Int) := by unfold bv; rw [UInt8.toNat_ofNat', Nat.mod_eq_of_lt (by simpa using hy)]
  rw [e2]
  congr 2
  simp
theorem Arr.range {w0 W : World} {g : Nat} {bs : List UInt8} (h : Arr w0 g bs W) : W.rangeAt g 0 (bs.map bv) := fun j v hv => by
  rw [Nat.zero_add, cell_of_row _ _ j _ _ _ h.blk]
  simpa using hv
theorem Arr.there {w0 W : World} {g : Nat} {bs : List UInt8} (h : Arr w0 g bs W) {o n : Nat} (hn : o + n ≤ bs.length) : W.there g o n := fun j hj =>
  ⟨by rw [h.cell (k := o + j) (by omega)]; rfl, h.frozen _⟩
/-- A slice of it, read. -/
theorem Arr.bytes {w0 W : World} {g : Nat} {bs : List UInt8} (h : Arr w0 g bs W) {o n c : Nat} (hn : o + n ≤ bs.length) (hc : n ≤ c) (hm : c ≤ maxLen) : Bytes W (.slice (some ⟨g, o, none⟩) n c) ((bs.drop o).take n) := by
  have hl : ((bs.drop o).take n).length = n := by rw [List.length_take, List.length_drop]; omega
  refine .inr ⟨⟨g, o, none⟩, c, by rw [hl], by omega, hm, fun j x hx => ?_⟩
  rw [Addr.add_mid]
  have hj : j < n := by
    have := (List.getElem?_eq_some_iff.1 hx).1
    rw [List.length_map, hl] at this
    exact this
  refine Arr.range h (o + j) x ?_ |> fun e => by rwa [Nat.zero_add] at e
  rw [List.map_take, List.map_drop, List.getElem?_take, if_pos hj, List.getElem?_drop] at hx
  exact hx

/-- A row with the first j bytes of a number from place o on. -/
def eightAt (bs : List UInt8) (o n : Nat) : Nat → List UInt8
  | 0 => bs
  | j + 1 => (eightAt bs o n j).set (o + j) (UInt8.ofNat (n / 256 ^ j % 256))
theorem eightAt_len (bs : List UInt8) (o n j : Nat) : (eightAt bs o n j).length = bs.length := by
  induction j with
  | zero => rfl
  | succ j ih => rw [eightAt, List.length_set, ih]

set_option maxRecDepth 100000 in
set_option maxHeartbeats 4000000 in
theorem hPut_any {w0 w : World} {g : Nat} {bs : List UInt8} (h : Arr w0 g bs w) (o S : Nat) (hS : S < 18446744073709551616) (ho : o + 8 ≤ bs.length) :
    Calls Try.prog 102 #[.slice (some ⟨g, o, none⟩) 8 8, .int .u64 (S : Nat)] w fun e w' => e = .returned (.tuple #[]) ∧ Arr w0 g (eightAt bs o S 8) w' := by
  have HO := hide h
  clear h
  go_enter Try.func102, Try.ntmps102
  go_wp2_with fail
  go_loopw [7] (fun i W => ∃ j : Nat, j ≤ 8 ∧ i = .int .i64 j ∧ Arr w0 g (eightAt bs o S j) W) (fun i _ => 8 - (intOf i).toNat)
  case atStart => exact ⟨0, by omega, rfl, unhide HO⟩
  case round =>
    obtain ⟨j, hj, rfl, hO⟩ := hrel
    by_cases hlt : j < 8
    · have hk : o + j < (eightAt bs o S j).length := by rw [eightAt_len]; omega
      have hc := hO.cell hk
      have hf := hO.frozen (o + j)
      have HP := hide (hO.put hk)
      clear hO hk
      generalize (((eightAt bs o S j).getD (o + j) 0).toNat : Nat) = x at hc
      rcases (show j = 0 ∨ j = 1 ∨ j = 2 ∨ j = 3 ∨ j = 4 ∨ j = 5 ∨ j = 6 ∨ j = 7 by omega) with rfl | rfl | rfl | rfl | rfl | rfl | rfl | rfl
      · rw [Nat.add_zero] at hc hf HP
        go_wp2_with fail
        have h2 := unhide HP (S / 256 ^ 0 % 256) (by omega)
        exact ⟨⟨1, by omega, rfl, by simpa [eightAt] using h2⟩, by simp [intOf]⟩
      · go_wp2_with fail
        have h2 := unhide HP (S / 256 ^ 1 % 256) (by omega)
        rw [show ((S / 256 ^ 1 % 256 : Nat) : Int) = (S : Int) / 256 % 256 by omega] at h2
        exact ⟨⟨2, by omega, rfl, h2⟩, by simp [intOf]⟩
      · go_wp2_with fail
        have h2 := unhide HP (S / 256 ^ 2 % 256) (by omega)
        rw [show ((S / 256 ^ 2 % 256 : Nat) : Int) = (S : Int) / 65536 % 256 by omega] at h2
        exact ⟨⟨3, by omega, rfl, h2⟩, by simp [intOf]⟩
      · go_wp2_with fail
        have h2 := unhide HP (S / 256 ^ 3 % 256) (by omega)
        rw [show ((S / 256 ^ 3 % 256 : Nat) : Int) = (S : Int) / 16777216 % 256 by omega] at h2
        exact ⟨⟨4, by omega, rfl, h2⟩, by simp [intOf]⟩
      · go_wp2_with fail
        have h2 := unhide HP (S / 256 ^ 4 % 256) (by omega)
        rw [show ((S / 256 ^ 4 % 256 : Nat) : Int) = (S : Int) / 4294967296 % 256 by omega] at h2
        exact ⟨⟨5, by omega, rfl, h2⟩, by simp [intOf]⟩
      · go_wp2_with fail
        have h2 := unhide HP (S / 256 ^ 5 % 256) (by omega)
        rw [show ((S / 256 ^ 5 % 256 : Nat) : Int) = (S : Int) / 1099511627776 % 256 by omega] at h2
        exact ⟨⟨6, by omega, rfl, h2⟩, by simp [intOf]⟩
      · go_wp2_with fail
        have h2 := unhide HP (S / 256 ^ 6 % 256) (by omega)
        rw [show ((S / 256 ^ 6 % 256 : Nat) : Int) = (S : Int) / 281474976710656 % 256 by omega] at h2
        exact ⟨⟨7, by omega, rfl, h2⟩, by simp [intOf]⟩
      · go_wp2_with fail
        have h2 := unhide HP (S / 256 ^ 7 % 256) (by omega)
        rw [show ((S / 256 ^ 7 % 256 : Nat) : Int) = (S : Int) / 72057594037927936 by omega] at h2
        exact ⟨⟨8, by omega, rfl, h2⟩, by simp [intOf]⟩
    · have e : j = 8 := by omega
      subst e
      go_wp2_with fail
      go_end0
      exact ⟨rfl, hO⟩

set_option maxHeartbeats 2000000 in
theorem hRight_any (s e l : Nat) (w : World) (hf : (HeadD.mk s e l).fits) : Calls Try.prog 91 #[.agg #[.int .u64 ((s : Nat) : Int), .int .u64 ((e : Nat) : Int), .int .u8 ((l : Nat) : Int)]] w fun e' w' => e' = .returned (.bool (HeadD.mk s e l).right) ∧ Below w.heap.size w w' := by
  have HB := hide ((Below.refl _ w).alloc (Nat.le_refl _) (.cells #[.int .u64 ((s : Nat) : Int), .int .u64 ((e : Nat) : Int), .int .u8 ((l : Nat) : Int)] 37))
  have hl := hf.2.2
  simp only at hl
  have hR : (HeadD.mk s e l).right = (decide (s ≠ 0) && decide (l < 2)) := by
    rw [Bool.eq_iff_iff, HeadD.right_iff, Bool.and_eq_true, decide_eq_true_iff, decide_eq_true_iff]
    constructor <;> (rintro ⟨a, b⟩; exact ⟨a, by simp only at *; omega⟩)
  rw [hR]
  clear hR hf
  by_cases h0 : s = 0
  · have g : ¬ (s : Int) > 0 := by omega
    rw [decide_eq_false (by omega), Bool.false_and]
    clear h0
    go_enter Try.func91, Try.ntmps91
    go_wp2
    go_ret
    exact ⟨rfl, unhide HB⟩
  · have g : (s : Int) > 0 := by omega
    rw [decide_eq_true h0, Bool.true_and]
    clear h0
    by_cases h1 : l < 2
    · have g1 : (l : Int) < 2 := by omega
      rw [decide_eq_true h1]
      clear h1
      go_enter Try.func91, Try.ntmps91
      go_wp2
      go_ret
      exact ⟨rfl, unhide HB⟩
    · have g1 : ¬ (l : Int) < 2 := by omega
      rw [decide_eq_false h1]
      clear h1
      go_enter Try.func91, Try.ntmps91
      go_wp2
      go_ret
      exact ⟨rfl, unhide HB⟩

set_option maxHeartbeats 2000000 in
theorem hSlot_any (s e l : Nat) (w : World) (hf : (HeadD.mk s e l).fits) : Calls Try.prog 87 #[.agg #[.int .u64 ((s : Nat) : Int), .int .u64 ((e : Nat) : Int), .int .u8 ((l : Nat) : Int)]] w fun e' w' => e' = .returned (.int .i64 ((s % 2 : Nat) : Int)) ∧ Below w.heap.size w w' := by
  have HB := hide ((Below.refl _ w).alloc (Nat.le_refl _) (.cells #[.int .u64 ((s : Nat) : Int), .int .u64 ((e : Nat) : Int), .int .u8 ((l : Nat) : Int)] 37))
  have hs := hf.1
  simp only at hs
  clear hf
  go_enter Try.func87, Try.ntmps87
  go_wp2
  go_ret
  exact ⟨ret_int (by omega), unhide HB⟩
end Go.Proofs.Ytflfiobicapopaa

namespace Go.Proofs.Ytflfiobicapopaa
open Go.RowKit

theorem laid_list (s e l : Nat) : eightAt ((eightAt (eightAt (List.replicate 32 0) 0 s 8) 8 e 8).set 16 (UInt8.ofNat l)) 24 s 8 = (HeadD.mk s e l).bytes := by
  simp [eightAt, HeadD.bytes, eight, List.replicate, List.range, List.range.loop]

theorem z32_eq : (#[.int .u8 0, .int .u8 0, .int .u8 0, .int .u8 0, .int .u8 0, .int .u8 0, .int .u8 0, .int .u8 0, .int .u8 0, .int .u8 0, .int .u8 0, .int .u8 0, .int .u8 0, .int .u8 0, .int .u8 0, .int .u8 0, .int .u8 0, .int .u8 0, .int .u8 0, .int .u8 0, .int .u8 0, .int .u8 0, .int .u8 0, .int .u8 0, .int .u8 0, .int .u8 0, .int .u8 0, .int .u8 0, .int .u8 0, .int .u8 0, .int .u8 0, .int .u8 0] : Array Value) = ((List.replicate 32 (0 : UInt8)).map bv).toArray := by rfl
theorem Arr.start (X : World) (g : Nat) (hg : X.heap.size = g) : Arr X g (List.replicate 32 0) (X.alloc (.cells #[.int .u8 0, .int .u8 0, .int .u8 0, .int .u8 0, .int .u8 0, .int .u8 0, .int .u8 0, .int .u8 0, .int .u8 0, .int .u8 0, .int .u8 0, .int .u8 0, .int .u8 0, .int .u8 0, .int .u8 0, .int .u8 0, .int .u8 0, .int .u8 0, .int .u8 0, .int .u8 0, .int .u8 0, .int .u8 0, .int .u8 0, .int .u8 0, .int .u8 0, .int .u8 0, .int .u8 0, .int .u8 0, .int .u8 0, .int .u8 0, .int .u8 0, .int .u8 0] 72)) := by
  subst hg
  refine ⟨?_, Nat.le_refl _, (Below.refl _ X).alloc (Nat.le_refl _) _⟩
  rw [heap_alloc_new, z32_eq]

theorem info32 : (Try.prog.info? 72).map (·.size) = some 32 := by kernel_rfl
theorem below_setRow {B : Nat} (w : World) (g : Nat) (cs : Array Value) (h : B ≤ g) : Below B w (w.setRow g cs) :=
  ⟨rfl, rfl, rfl, by simp [World.setRow], fun k hk => setRow_other _ _ _ _ (by omega)⟩

set_option maxRecDepth 100000 in
set_option maxHeartbeats 4000000 in
theorem hLaid_any (s e l : Nat) (w : World) (hf : (HeadD.mk s e l).fits) : Calls Try.prog 96 #[.agg #[.int .u64 ((s : Nat) : Int), .int .u64 ((e : Nat) : Int), .int .u8 ((l : Nat) : Int)]] w fun e' w' => e' = .returned (.agg (((HeadD.mk s e l).bytes).map bv).toArray) ∧ Below w.heap.size w w' := by
  obtain ⟨X, hX⟩ : ∃ X, X = (w.alloc (.cells #[.int .u64 ((s : Nat) : Int), .int .u64 ((e : Nat) : Int), .int .u8 ((l : Nat) : Int)] 37)).alloc (.cells #[.int .u8 0, .int .u8 0, .int .u8 0, .int .u8 0, .int .u8 0, .int .u8 0, .int .u8 0, .int .u8 0, .int .u8 0, .int .u8 0, .int .u8 0, .int .u8 0, .int .u8 0, .int .u8 0, .int .u8 0, .int .u8 0, .int .u8 0, .int .u8 0, .int .u8 0, .int .u8 0, .int .u8 0, .int .u8 0, .int .u8 0, .int .u8 0, .int .u8 0, .int .u8 0, .int .u8 0, .int .u8 0, .int .u8 0, .int .u8 0, .int .u8 0, .int .u8 0] 72) := ⟨_, rfl⟩
  have hXs : X.heap.size = w.heap.size + 1 + 1 := by rw [hX]; simp
  have HX0 : Hid (X.heap[w.heap.size]? = some (.cells #[.int .u64 ((s : Nat) : Int), .int .u64 ((e : Nat) : Int), .int .u8 ((l : Nat) : Int)] 37 (0, 0))) := by
    show _ = _
    rw [hX, Below.heap_alloc _ _ _ (by simp), heap_alloc_new]
  have HX1 : Hid (X.heap[w.heap.size + 1]? = some (.cells ((List.replicate 32 (0 : UInt8)).map bv).toArray 72 (0, 0))) := by
    show _ = _
    have e := heap_alloc_new (w.alloc (.cells #[.int .u64 ((s : Nat) : Int), .int .u64 ((e : Nat) : Int), .int .u8 ((l : Nat) : Int)] 37)) (.cells #[.int .u8 0, .int .u8 0, .int .u8 0, .int .u8 0, .int .u8 0, .int .u8 0, .int .u8 0, .int .u8 0, .int .u8 0, .int .u8 0, .int .u8 0, .int .u8 0, .int .u8 0, .int .u8 0, .int .u8 0, .int .u8 0, .int .u8 0, .int .u8 0, .int .u8 0, .int .u8 0, .int .u8 0, .int .u8 0, .int .u8 0, .int .u8 0, .int .u8 0, .int .u8 0, .int .u8 0, .int .u8 0, .int .u8 0, .int .u8 0, .int .u8 0, .int .u8 0] 72)
    rw [hX, ← z32_eq]
    simpa using e
  have HXB : Hid (Below w.heap.size w X) := by
    show Below _ _ _
    rw [hX]
    exact ((Below.refl _ w).alloc (Nat.le_refl _) _).alloc (by simp) _
  have HA := hide (Arr.start X (w.heap.size + 1 + 1) hXs)
  have HL := hide (HeadD.mk s e l).bytes_len
  obtain ⟨bs, hbs⟩ : ∃ bs, bs = (HeadD.mk s e l).bytes := ⟨_, rfl⟩
  rw [← hbs] at HL ⊢
  have HBS := hide hbs.symm
  clear hbs
  obtain ⟨hs, he, hl⟩ := hf
  simp only at hs he hl
  go_enter Try.func96, Try.ntmps96
  go_upto_region 2 with fail
  rw [← hX]
  clear hX
  generalize X.alloc (.cells #[.int .u8 0, .int .u8 0, .int .u8 0, .int .u8 0, .int .u8 0, .int .u8 0, .int .u8 0, .int .u8 0, .int .u8 0, .int .u8 0, .int .u8 0, .int .u8 0, .int .u8 0, .int .u8 0, .int .u8 0, .int .u8 0, .int .u8 0, .int .u8 0, .int .u8 0, .int .u8 0, .int .u8 0, .int .u8 0, .int .u8 0, .int .u8 0, .int .u8 0, .int .u8 0, .int .u8 0, .int .u8 0, .int .u8 0, .int .u8 0, .int .u8 0, .int .u8 0] 72) = w1 at *
  have HC : Hid (∀ bs W, Arr X (w.heap.size + 1 + 1) bs W → W.cell? ⟨w.heap.size, 0, none⟩ = some (.int .u64 ((s : Nat) : Int)) ∧ W.cell? ⟨w.heap.size, 1, none⟩ = some (.int .u64 ((e : Nat) : Int)) ∧ W.cell? ⟨w.heap.size, 2, none⟩ = some (.int .u8 ((l : Nat) : Int))) := fun bs W h => by
    have hk := (h.bb.block w.heap.size (by omega)).trans (unhide HX0)
    exact ⟨cell_of_row _ _ 0 _ _ _ hk, cell_of_row _ _ 1 _ _ _ hk, cell_of_row _ _ 2 _ _ _ hk⟩
  have HXS := hide hXs
  clear hXs
  have c0 := (unhide HC _ _ (unhide HA)).1
  go_cut [] (fun wx => Arr X (w.heap.size + 1 + 1) (eightAt (List.replicate 32 0) 0 s 8) wx)
  case first =>
    go_region_with (go_at_call 102; refine (hPut_any ((unhide HA).drewN _) 0 s hs (by simp)).mono ?_; rintro e w' ⟨rfl, hA⟩)
    all_goals (go_wp2_with fail; go_meet; exact hA)
  have HA2 := hide hcut
  clear hcut HA c0
  generalize wc = w2 at *
  have c1 := (unhide HC _ _ (unhide HA2)).2.1
  go_upto_region 3 with fail
  go_cut [] (fun wx => Arr X (w.heap.size + 1 + 1) (eightAt (eightAt (List.replicate 32 0) 0 s 8) 8 e 8) wx)
  case first =>
    go_region_with (go_at_call 102; refine (hPut_any ((unhide HA2).drewN _) 8 e he (by rw [eightAt_len]; simp)).mono ?_; rintro e w' ⟨rfl, hA⟩)
    all_goals (go_wp2_with fail; go_meet; exact hA)
  have HA3 := hide hcut
  clear hcut HA2 c1
  generalize wc = w3 at *
  have c2 := (unhide HC _ _ (unhide HA3)).2.2
  have hk16 : 16 < (eightAt (eightAt (List.replicate 32 0) 0 s 8) 8 e 8).length := by rw [eightAt_len, eightAt_len]; simp
  have c16 := (unhide HA3).cell hk16
  have f16 := (unhide HA3).frozen 16
  have HA4 := hide ((unhide HA3).put hk16 l hl)
  generalize ((eightAt (eightAt (List.replicate 32 0) 0 s 8) 8 e 8).getD 16 0).toNat = x16 at c16
  clear hk16 HA3
  go_upto_region 5 with fail
  generalize w3.setCell ⟨w.heap.size + 1 + 1, 16, none⟩ (.int .u8 ((l : Nat) : Int)) = w4 at *
  clear c2 c16 f16
  have c0 := (unhide HC _ _ (unhide HA4)).1
  go_cut [] (fun wx => Arr X (w.heap.size + 1 + 1) bs wx)
  case first =>
    go_region_with (go_at_call 102; refine (hPut_any ((unhide HA4).drewN _) 24 s hs (by rw [List.length_set, eightAt_len, eightAt_len]; simp)).mono ?_; rintro e w' ⟨rfl, hA⟩)
    all_goals (go_wp2_with fail; go_meet; rw [laid_list] at hA; exact unhide HBS ▸ hA)
  have HA5 := hide hcut
  clear hcut HA4 c0
  generalize wc = w5 at *
  have HR : Hid (w5.heap[w.heap.size + 1]? = some (.cells ((List.replicate 32 (0 : UInt8)).map bv).toArray 72 (0, 0))) := ((unhide HA5).bb.block _ (by have := unhide HXS; omega)).trans (unhide HX1)
  have HI : Hid ((Try.prog.info? 72).map (·.size) = some (bs.map bv).toArray.size) := by
    show _ = _
    rw [List.size_toArray, List.length_map, unhide HL]
    exact info32
  have HS : Hid (((List.replicate 32 (0 : UInt8)).map bv).toArray.size = (bs.map bv).toArray.size) := by
    show _ = _
    rw [List.size_toArray, List.size_toArray, List.length_map, List.length_map, unhide HL]
    rfl
  go_wp2_with (first
    | refine wpList_load_row rfl 72 (.tmp 3) rfl (w.heap.size + 1 + 1) rfl _ _ _ _ (unhide HA5).blk Try.underlying72 rfl (unhide HI) ?_
    | refine wpList_store_row rfl 72 (.tmp 2) (.tmp 19) rfl (w.heap.size + 1) (bs.map bv).toArray rfl rfl _ _ (unhide HR) (unhide HI) (unhide HS) (all_oneCell_toArray (bv_one _)) ?_)
  refine bodyPost_ret (results_cell_row rfl _ _ _ _ _ _ _ rfl (setRow_heap _ _ _ _ _ _ (unhide HR)) Try.underlying72 rfl (unhide HI)) rfl ?_
  refine ⟨rfl, (unhide HXB).trans ((((unhide HA5).bb.mono (unhide HXB).size)).trans ?_)⟩
  exact below_setRow _ _ _ (by omega)
end Go.Proofs.Ytflfiobicapopaa
