/- ValConcat, FragPut2, ValRefD, ValImplB: our own definitions and contracts; no statement of the seat is proved here. -/
import Derived.Test.YtdlbpbglidhlfaaGreatDoorBase01
import Derived.Test.YtdlbpbglidhlfaaGreatDoorBase12
import Derived.Test.YtdlbpbglidhlfaaGreatDoorBase09
import Derived.Test.YtdlbpbglidhlfaaGreatDoorBase05
import Derived.Test.YtdlbpbglidhlfaaGreatDoorBase10
import Derived.Test.YtdlbpbglidhlfaaGreatDoorBase03
namespace Go.Proofs.YtdlbpbglidhlfaaGreatDoor
open Go.RowKit

/-- Slices of bytes, in a row in the block g. -/
def RowsB (w : World) (g : Nat) (rows : List (List UInt8)) : Prop := ∀ i x, rows[i]? = some x → ∃ a c, w.cell? ⟨g, i, none⟩ = some (.slice a x.length c) ∧ Bytes w (.slice a x.length c) x
theorem RowsB.later {w W : World} {g : Nat} {rows : List (List UInt8)} (h : RowsB w g rows) (hb : Below w.heap.size w W) : RowsB W g rows := fun i x hx => by
  obtain ⟨a, c, h1, h2⟩ := h i x hx
  exact ⟨a, c, (hb.cell (World.block_lt_of_cell? _ _ h1)).trans h1, h2.kept fun k _ hk => hb.block k hk⟩

set_option maxRecDepth 100000 in
set_option maxHeartbeats 1000000 in
theorem growV_any (m : Nat) (hm : m ≤ 1048576) (w : World) : Calls Tryz.prog 91 #[.slice none 0 0, .int .i64 ((m : Nat) : Int)] w fun e w' => ∃ v, e = .returned v ∧ Own w v [] w' := by
  by_cases h0 : m = 0
  · subst h0
    go_enter Tryz.func91, Tryz.ntmps91
    go_wp2_with fail
    go_ret
    exact ⟨_, rfl, Own.start w⟩
  · obtain ⟨ti, hti, hz0, hz1, hz2⟩ := infoByte
    have h1 : (m : Int) > 0 := by omega
    have h2 : ¬ (m : Int) < 0 := by omega
    have HO := hide (Own.start w)
    go_enter Tryz.func91, Tryz.ntmps91
    go_wp2_with (at_builtin; refine wpList_append_noughts _ rfl _ _ 28 3 rfl 5 ti .i64 .i64 Tryz.underlying28 Tryz.underlying3 hti hz0 hz1 hz2 _ [] rfl (unhide HO).own m rfl (by simp; omega) ?_)
    rintro v1 w1 r1 r2 r3
    have HF : Hid (∃ g cap, v1 = .slice (some ⟨g, 0, none⟩) m cap ∧ Own w (.slice (some ⟨g, 0, none⟩) 0 cap) [] w1) := by
      have hb : Below w.heap.size w w1 := (unhide HO).bb.grown r2 (Nat.le_refl _) fun k hk => (by cases hk)
      rcases r1.2 with ⟨_, h⟩ | ⟨g, cap, cur, e, e2, e3, e4, e5, e6, e7⟩
      · exact absurd h h0
      · refine ⟨g, cap, e, ⟨⟨by simp, .inr ⟨g, cap, cur, rfl, Nat.zero_le _, e3, Nat.zero_le _, e5, e6, by simp⟩⟩, fun k hk => ?_, hb⟩⟩
        have hk' : g = k := by simpa [Value.ownBlock] using hk
        subst hk'
        rcases r3 with e' | ⟨k', e', h'⟩
        · rw [e] at e'; cases e'
        · rw [e] at e'; cases e'; exact h'
    clear r1 r2 r3 HO
    obtain ⟨g, cap, e, hO⟩ := unhide HF
    subst e
    have HO := hide hO
    clear hO HF
    go_wp2_with fail
    go_ret
    exact ⟨_, rfl, unhide HO⟩

theorem flat_takeV {rows : List (List UInt8)} {j : Nat} {x : List UInt8} (hx : rows[j]? = some x) : (rows.take (j + 1)).flatten = (rows.take j).flatten ++ x := by
  obtain ⟨hj, rfl⟩ := List.getElem?_eq_some_iff.1 hx
  rw [List.take_succ_eq_append_getElem hj, List.flatten_append, List.flatten_singleton]
theorem flat_leV (rows : List (List UInt8)) (j : Nat) : (rows.take j).flatten.length ≤ rows.flatten.length := by
  conv => rhs; rw [← List.take_append_drop j rows]
  rw [List.flatten_append, List.length_append]
  omega

theorem some_getV {α : Type} {xs : List α} {j : Nat} (h : j < xs.length) : ∃ x, xs[j]? = some x := ⟨_, List.getElem?_eq_getElem h⟩
/-- How long rows are, together. -/
def flatLen (rows : List (List UInt8)) : Nat := rows.flatten.length
theorem flatLen_le (rows : List (List UInt8)) (j : Nat) : flatLen (rows.take j) ≤ flatLen rows := flat_leV rows j
theorem flatLen_take {rows : List (List UInt8)} {j : Nat} {x : List UInt8} (hx : rows[j]? = some x) : flatLen (rows.take (j + 1)) = flatLen (rows.take j) + x.length := by unfold flatLen; rw [flat_takeV hx, List.length_append]
set_option maxRecDepth 100000 in
set_option maxHeartbeats 2000000 in
theorem concatV_any (g c : Nat) (rows : List (List UInt8)) (w : World) (h : RowsB w g rows) (ht : flatLen rows ≤ 1048576) (hl : rows.length ≤ 1048576) : Calls Tryz.prog 70 #[.slice (some ⟨g, 0, none⟩) rows.length c] w fun e w' => ∃ v, e = .returned v ∧ Own w v rows.flatten w' := by
  obtain ⟨n, hn⟩ : ∃ n, n = rows.length := ⟨_, rfl⟩
  rw [← hn] at hl ⊢
  have HH := hide h
  have HN := hide hn
  have HT := hide ht
  obtain ⟨ti, hti, hz0, hz1, hz2⟩ := infoByte
  clear h hn ht
  go_enter Tryz.func70, Tryz.ntmps70
  go_wp2_with fail
  go_loopw [3, 11] (fun s i W => ∃ j : Nat, j ≤ n ∧ i = .int .i64 j ∧ s = .int .i64 ((flatLen (rows.take j) : Nat) : Int) ∧ W = w) (fun _ i _ => n - (intOf i).toNat)
  case atStart => exact ⟨0, Nat.zero_le _, rfl, by simp [flatLen], rfl⟩
  case round =>
    obtain ⟨j, hj, rfl, rfl, rfl⟩ := hrel
    have HTL : Hid (∀ j, flatLen (rows.take j) ≤ 1048576) := fun j => Nat.le_trans (flatLen_le rows j) (unhide HT)
    by_cases hlt : j < n
    · obtain ⟨x, hx⟩ := some_getV (xs := rows) (j := j) (by have := unhide HN; omega)
      obtain ⟨d1, k1, x1, x3⟩ := unhide HH j x hx
      have i1 : (j : Int) < (n : Int) := by omega
      have HTT := hide (flatLen_take hx)
      have hle := unhide HTL (j + 1)
      rw [unhide HTT] at hle
      clear x3 hx
      generalize flatLen (rows.take j) = t0 at *
      generalize x.length = nx at *
      obtain ⟨E, hE⟩ : ∃ E, E = t0 + nx := ⟨_, rfl⟩
      have gE : (t0 : Int) + (nx : Int) = (E : Int) := by omega
      have gE2 : ¬ (E : Int) < 0 := by omega
      have gE3 : E ≤ 1048576 := by omega
      have HE := hide hE
      clear hE hle
      go_wp2_with fail
      exact ⟨⟨j + 1, by omega, by go_num, by rw [unhide HTT, ← unhide HE], by trivial⟩, by simp [intOf]; omega⟩
    · have ej : n = j := by omega
      subst ej
      have HTK : Hid (rows.take n = rows) := List.take_of_length_le (by have := unhide HN; omega)
      rw [unhide HTK]
      obtain ⟨wx, hwx⟩ : ∃ wx, wx = wr := ⟨_, rfl⟩
      subst hwx
      go_wp2_with fail
      refine (growV_any (flatLen rows) (unhide HT) _).mono ?_
      rintro e w2 ⟨v2, rfl, hO⟩
      have HO := hide hO
      clear hO
      go_wp2_with fail
      go_loopw [6, 27] (fun v i W => ∃ j : Nat, j ≤ n ∧ i = .int .i64 j ∧ Own wx v (rows.take j).flatten W) (fun _ i _ => n - (intOf i).toNat)
      case atStart => exact ⟨0, Nat.zero_le _, rfl, unhide HO⟩
      case round =>
        obtain ⟨j, hj, rfl, hO⟩ := hrel
        have HO := hide hO
        clear hO
        by_cases hlt : j < n
        · obtain ⟨x, hx⟩ := some_getV (xs := rows) (j := j) (by have := unhide HN; omega)
          obtain ⟨d1, k1, x1, x3⟩ := RowsB.later (unhide HH) (unhide HO).bb j x hx
          have i1 : (j : Int) < (n : Int) := by omega
          have X3 := hide x3
          have HFT := hide (flat_takeV hx)
          have HLE : Hid ((rows.take j).flatten.length + x.length ≤ 140737488355328) := by
            have := unhide HTL (j + 1)
            rw [flatLen_take hx] at this
            change flatLen (rows.take j) + x.length ≤ 140737488355328
            omega
          clear x3 hx
          obtain ⟨nx, hnx⟩ : ∃ nx, nx = x.length := ⟨_, rfl⟩
          rw [← hnx] at x1 X3
          clear hnx
          go_wp2_with (at_builtin; refine wpList_append_bytes _ rfl _ _ 28 rfl 5 ti (.int .u8 0) Tryz.underlying28 hti hz0 hz1 hz2 rfl _ _ rfl (unhide HO).own _ _ rfl (unhide X3) (unhide HLE) ?_)
          rintro v8 w8 r1 r2 r3
          have HO4 : Hid (Own wx v8 (rows.take (j + 1)).flatten w8) := by
            have h := (unhide HO).grown (cs := (rows.take j).flatten ++ x) (by simpa using r1) r2 r3
            rw [← unhide HFT] at h
            exact h
          clear r1 r2 r3 HO
          go_wp2_with fail
          exact ⟨⟨j + 1, by omega, by go_num, unhide HO4⟩, by simp [intOf]; omega⟩
        · have ej : n = j := by omega
          subst ej
          rw [unhide HTK] at HO
          go_wp2_with fail
          go_ret
          exact ⟨_, rfl, unhide HO⟩
end Go.Proofs.YtdlbpbglidhlfaaGreatDoor

namespace Go.Proofs.YtdlbpbglidhlfaaGreatDoor
open Go.RowKit

/-- A row under way beside an item's struct in a block of its own. -/
structure Sb (w0 : World) (g : Nat) (row : Array Value) (r : Value) (bs : List UInt8) (W : World) : Prop where
  own : Own w0 r bs W
  box : W.heap[g]? = some (.cells row 62 (0, 0))
  ne : r.ownBlock ≠ some g
theorem Sb.put {w0 W W' : World} {g : Nat} {row : Array Value} {r r' : Value} {bs cs : List UInt8} (h : Sb w0 g row r bs W) (hO : Own w0 r' cs W') (hG : GR W r W' r') : Sb w0 g row r' cs W' :=
  ⟨hO, (hG.block g (Array.getElem?_eq_some_iff.1 h.box).1 h.ne).trans h.box, hG.ne (Array.getElem?_eq_some_iff.1 h.box).1 h.ne⟩
theorem Sb.cells {w0 W : World} {g : Nat} {v0 v1 v2 v3 v4 v5 : Value} {r : Value} {bs : List UInt8} (h : Sb w0 g #[v0, v1, v2, v3, v4, v5] r bs W) : W.cell? ⟨g, 0, none⟩ = some v0 ∧ W.cell? ⟨g, 1, none⟩ = some v1 ∧ W.cell? ⟨g, 2, none⟩ = some v2 ∧ W.cell? ⟨g, 3, none⟩ = some v3 ∧ W.cell? ⟨g, 4, none⟩ = some v4 ∧ W.cell? ⟨g, 5, none⟩ = some v5 := cells6 h.box

set_option maxRecDepth 100000 in
set_option maxHeartbeats 2000000 in
theorem putItem_any (x : FI) (B : Nat → Prop) (w0 w : World) (u r : Value) (pre : List UInt8) (hA : x.At B w0 u) (hr : x.right = true) (hO : Own w0 r pre w) (hl : pre.length ≤ 100000) : Calls Tryz.prog 93 #[r, u] w (PutM w0 r w (pre ++ x.bytes)) := by
  obtain ⟨z, K, pa, pn, pc, zo, wd, qt, rfl⟩ := hA.form
  have hp := hA.parts
  have hbl := FI.bytes_le hr
  have hrr := hr
  rw [FI.right_parts] at hrr
  simp only [Bool.and_eq_true, decide_eq_true_eq] at hrr
  obtain ⟨hnm, hal, haf, ⟨hq0, hq4⟩, hko⟩ := hrr
  obtain ⟨W1, hW1⟩ : ∃ W1, W1 = w.alloc (.cells #[.string z, .int .u8 ((K : Nat) : Int), .slice pa pn pc, .string zo, .int .i64 wd, .int .i64 qt] 62) := ⟨_, rfl⟩
  have hb1 : Below w.heap.size w W1 := by rw [hW1]; exact (Below.refl _ w).alloc (Nat.le_refl _) _
  have hr1 : W1.heap[w.heap.size]? = some (.cells #[.string z, .int .u8 ((K : Nat) : Int), .slice pa pn pc, .string zo, .int .i64 wd, .int .i64 qt] 62 (0, 0)) := by rw [hW1]; exact heap_alloc_new w _
  obtain ⟨ra, rc, rfl, -⟩ := own_formS hO
  obtain ⟨m, hm⟩ : ∃ m, m = pre.length := ⟨_, rfl⟩
  rw [← hm] at hO ⊢
  have HS1 : Hid (Sb w0 w.heap.size #[.string z, .int .u8 ((K : Nat) : Int), .slice pa pn pc, .string zo, .int .i64 wd, .int .i64 qt] (.slice ra m rc) pre W1) := ⟨hO.later hb1, hr1, fun e => by have := (hO.own.lt _ e).2; omega⟩
  have HG1 := hide ((GR.refl w (.slice ra m rc)).later hb1)
  have hK256 : K < 256 := by rw [hp.kd]; exact hp.fits.kb
  have HC1 : Hid (∀ r W, Own w0 r pre W → Calls Tryz.prog 116 #[r, .string z] W (PutM w0 r W (pre ++ textB x.name))) := fun r W h => by rw [hp.nm]; exact putText_any w0 W r pre x.name (by have := nameB_len hnm; omega) h (by omega)
  have hl1 := textB_le (nameB_len hnm) (by omega)
  have hlk := numB_ten (n := ((K : Nat) : Int)) (by unfold InR; omega)
  have hln := numB_ten (n := ((x.after.length : Nat) : Int)) (by unfold InR; omega)
  have hlf := flat_le (f := textB) (m := 30) (l := x.after) (fun s hs => textB_le (nameB_len (List.all_eq_true.1 haf s hs)) (by omega))
  have hlf2 : 30 * x.after.length ≤ 600 := by omega
  have HC2 : Hid (∀ r W, Own w0 r (pre ++ textB x.name) W → Calls Tryz.prog 115 #[r, .int .i64 ((K : Nat) : Int)] W (PutM w0 r W (pre ++ textB x.name ++ numB ((K : Nat) : Int)))) := fun r W h => putNumber_any w0 W r _ _ (by unfold InR; omega) h (by rw [List.length_append]; omega)
  have HC3 : Hid (∀ r W, Own w0 r (pre ++ textB x.name ++ numB ((K : Nat) : Int)) W → Calls Tryz.prog 117 #[r, .slice pa pn pc, .func (.func 116) #[] #[]] W (PutM w0 r W (pre ++ textB x.name ++ numB ((K : Nat) : Int) ++ (numB ((x.after.length : Nat) : Int) ++ x.after.flatMap textB)))) := fun r W h => putStrs_any x.after B w0 W r _ pn pc pa hp.an (by rw [hp.an]; omega) hp.strs h (by rw [List.length_append, List.length_append]; omega)
  have HC4 : Hid (∀ r W, Own w0 r (pre ++ textB x.name ++ numB ((K : Nat) : Int) ++ (numB ((x.after.length : Nat) : Int) ++ x.after.flatMap textB)) W → Calls Tryz.prog 115 #[r, .int .i64 qt] W (PutM w0 r W (pre ++ textB x.name ++ numB ((K : Nat) : Int) ++ (numB ((x.after.length : Nat) : Int) ++ x.after.flatMap textB) ++ numB qt))) := fun r W h => putNumber_any w0 W r _ _ (by rw [hp.qt]; exact hp.fits.qt) h (by rw [List.length_append, List.length_append, List.length_append, List.length_append]; omega)
  obtain ⟨P1, hP1⟩ : ∃ P, P = pre ++ textB x.name := ⟨_, rfl⟩
  obtain ⟨P2, hP2⟩ : ∃ P, P = P1 ++ numB ((K : Nat) : Int) := ⟨_, rfl⟩
  obtain ⟨P3, hP3⟩ : ∃ P, P = P2 ++ (numB ((x.after.length : Nat) : Int) ++ x.after.flatMap textB) := ⟨_, rfl⟩
  obtain ⟨P4, hP4⟩ : ∃ P, P = P3 ++ numB qt := ⟨_, rfl⟩
  rw [← hP1] at HC1 HC2 HC3 HC4
  rw [← hP2] at HC2 HC3 HC4
  rw [← hP3] at HC3 HC4
  rw [← hP4] at HC4
  have hl4 : P4.length ≤ 200000 := by rw [hP4, hP3, hP2, hP1, hp.qt]; have := numB_ten (n := x.quota) (by unfold InR; omega); simp only [List.length_append]; omega
  have HBY : Hid (pre ++ x.bytes = P4 ++ x.tail) := by show _ = _; rw [hP4, hP3, hP2, hP1, hp.qt, hp.kd]; unfold FI.bytes; simp only [List.append_assoc]
  have HK1 : Hid (K ≠ 1 → pre ++ x.bytes = P4) := fun hk => by rw [unhide HBY]; unfold FI.tail; rw [if_neg (by rw [← hp.kd]; exact hk), List.append_nil]
  have HC5 : Hid (K = 1 → ∀ r W, Own w0 r P4 W → Calls Tryz.prog 116 #[r, .string zo] W (PutM w0 r W (P4 ++ textB x.over))) := fun hk r W h => by
    rw [hp.ov]
    refine putText_any w0 W r P4 x.over ?_ h (by omega)
    unfold FI.kindOk at hko
    simp only [Bool.or_eq_true, Bool.and_eq_true, decide_eq_true_eq] at hko
    rcases hko with ⟨⟨h, _⟩, _⟩ | ⟨⟨⟨_, ho⟩, _⟩, _⟩
    · rw [hp.kd] at hk; omega
    · have := nameB_len ho; omega
  have HC6 : Hid (K = 1 → ∀ r W, Own w0 r (P4 ++ textB x.over) W → Calls Tryz.prog 115 #[r, .int .i64 wd] W (PutM w0 r W (pre ++ x.bytes))) := fun hk r W h => by
    have e : pre ++ x.bytes = P4 ++ textB x.over ++ numB wd := by rw [unhide HBY]; unfold FI.tail; rw [if_pos (by rw [← hp.kd]; exact hk), hp.wd, List.append_assoc]
    rw [e]
    refine putNumber_any w0 W r _ _ (by rw [hp.wd]; exact hp.fits.wd) h ?_
    unfold FI.kindOk at hko
    simp only [Bool.or_eq_true, Bool.and_eq_true, decide_eq_true_eq] at hko
    rcases hko with ⟨⟨h, _⟩, _⟩ | ⟨⟨⟨_, ho⟩, _⟩, _⟩
    · rw [hp.kd] at hk; omega
    · have h5 := textB_le (nameB_len ho) (by omega)
      rw [List.length_append]
      omega
  have HW1 := hide hW1
  obtain ⟨c0, c1, c2, c3, c4, c5⟩ := (unhide HS1).cells
  generalize pre ++ x.bytes = PX at *
  generalize P4 ++ textB x.over = P5 at *
  clear hA hp hbl hr hnm hal haf hq0 hq4 hko hb1 hr1 hO hm hl hl1 hlk hln hlf hlf2 hP1 hP2 hP3 hP4 hl4 HBY hW1
  go_enter Tryz.func93, Tryz.ntmps93
  go_upto_region 1 with fail
  rw [← unhide HW1]
  clear HW1
  go_wp2_with fail
  refine (unhide HC1 _ _ (unhide HS1).own).mono ?_
  rintro e w2 ⟨a2, n2, d2, rfl, hO2, hG2⟩
  have HS2 := hide ((unhide HS1).put hO2 hG2)
  have HG2 := hide ((unhide HG1).trans hG2)
  clear hO2 hG2 c0 c1 c2 c3 c4 c5 HS1 HG1
  obtain ⟨c0, c1, c2, c3, c4, c5⟩ := (unhide HS2).cells
  go_wp2_with fail
  refine (unhide HC2 _ _ (unhide HS2).own).mono ?_
  rintro e w3 ⟨a3, n3, d3, rfl, hO3, hG3⟩
  have HS3 := hide ((unhide HS2).put hO3 hG3)
  have HG3 := hide ((unhide HG2).trans hG3)
  clear hO3 hG3 c0 c1 c2 c3 c4 c5 HS2 HG2
  obtain ⟨c0, c1, c2, c3, c4, c5⟩ := (unhide HS3).cells
  go_wp2_with fail
  refine (unhide HC3 _ _ (unhide HS3).own).mono ?_
  rintro e w4 ⟨a4, n4, d4, rfl, hO4, hG4⟩
  have HS4 := hide ((unhide HS3).put hO4 hG4)
  have HG4 := hide ((unhide HG3).trans hG4)
  clear hO4 hG4 c0 c1 c2 c3 c4 c5 HS3 HG3
  obtain ⟨c0, c1, c2, c3, c4, c5⟩ := (unhide HS4).cells
  go_wp2_with fail
  refine (unhide HC4 _ _ (unhide HS4).own).mono ?_
  rintro e w5 ⟨a5, n5, d5, rfl, hO5, hG5⟩
  have HS5 := hide ((unhide HS4).put hO5 hG5)
  have HG5 := hide ((unhide HG4).trans hG5)
  clear hO5 hG5 c0 c1 c2 c3 c4 c5 HS4 HG4
  obtain ⟨c0, c1, c2, c3, c4, c5⟩ := (unhide HS5).cells
  by_cases k1 : K = 1
  · have g1 : (((K : Nat) : Int) == 1) = true := by rw [beq_iff_eq]; omega
    have HC5b := hide (unhide HC5 k1)
    have HC6b := hide (unhide HC6 k1)
    clear k1
    go_wp2_with fail
    refine (unhide HC5b _ _ (unhide HS5).own).mono ?_
    rintro e w6 ⟨a6, n6, d6, rfl, hO6, hG6⟩
    have HS6 := hide ((unhide HS5).put hO6 hG6)
    have HG6 := hide ((unhide HG5).trans hG6)
    clear hO6 hG6 c0 c1 c2 c3 c4 c5 HS5 HG5
    obtain ⟨c0, c1, c2, c3, c4, c5⟩ := (unhide HS6).cells
    go_wp2_with fail
    refine (unhide HC6b _ _ (unhide HS6).own).mono ?_
    rintro e w7 ⟨a7, n7, d7, rfl, hO7, hG7⟩
    have HO7 := hide hO7
    have HG7 := hide ((unhide HG6).trans hG7)
    clear hO7 hG7 c0 c1 c2 c3 c4 c5
    go_wp2_with fail
    go_ret
    exact ⟨a7, n7, d7, rfl, unhide HO7, unhide HG7⟩
  · have g1 : (((K : Nat) : Int) == 1) = false := by rw [beq_eq_false_iff_ne]; omega
    have HPE := hide (unhide HK1 k1)
    clear k1
    go_wp2_with fail
    go_ret
    exact ⟨a5, n5, d5, rfl, by rw [unhide HPE]; exact (unhide HS5).own, unhide HG5⟩

set_option maxRecDepth 100000 in
set_option maxHeartbeats 1000000 in
theorem putItems_any (l : List FI) (B : Nat → Prop) (w0 w : World) (r : Value) (pre : List UInt8) (n c : Nat) (a : Option Addr) (hn : n = l.length) (hR : rightF l = true) (hS : ItemsAt B w0 a l) (hO : Own w0 r pre w) (hl : pre.length ≤ 1000) :
    Calls Tryz.prog 92 #[r, .slice a n c, .func (.func 93) #[] #[]] w (PutM w0 r w (pre ++ bytesF l)) := by
  have hbl := bytesF_le hR
  have hR2 := hR
  unfold rightF at hR2
  simp only [Bool.and_eq_true, decide_eq_true_eq] at hR2
  obtain ⟨hl40, hall⟩ := hR2
  have HR := hide (List.all_eq_true.1 hall)
  have HL : Hid (∀ j, (pre ++ numB ((n : Nat) : Int) ++ (l.take j).flatMap FI.bytes).length ≤ 100000) := fun j => by
    have h1 := flat_take_le FI.bytes l j
    unfold bytesF at hbl
    rw [List.length_append] at hbl
    rw [List.length_append, List.length_append, hn]
    omega
  have HNU := hide (putNumber_any w0 w r pre ((n : Nat) : Int) (by unfold InR; omega) hO (by omega))
  have HN := hide hn
  have HS := hide hS
  have HCS : Hid (pre ++ bytesF l = pre ++ numB ((n : Nat) : Int) ++ (l.take n).flatMap FI.bytes) := by show _ = _; unfold bytesF; rw [hn, List.take_length, List.append_assoc]
  obtain ⟨ra, rc, rfl, -⟩ := own_formS hO
  obtain ⟨m, hm⟩ : ∃ m, m = pre.length := ⟨_, rfl⟩
  rw [← hm] at HNU ⊢
  have hn6 : n ≤ 40 := by omega
  clear hn hS hO hl hm hbl hR hl40 hall
  go_enter Tryz.func92, Tryz.ntmps92
  go_wp2_with fail
  refine (unhide HNU).mono ?_
  rintro e w2 ⟨a2, n2, c2, rfl, hO2, hG2⟩
  have HO2 := hide hO2
  have HG2 := hide hG2
  clear hO2 hG2
  go_wp2_with fail
  go_loopw [0, 15] (fun v k W => ∃ (j : Nat) (a3 : Option Addr) (n3 c3 : Nat), j ≤ n ∧ k = .int .i64 ((j : Nat) : Int) ∧ v = .slice a3 n3 c3 ∧ Own w0 (.slice a3 n3 c3) (pre ++ numB ((n : Nat) : Int) ++ (l.take j).flatMap FI.bytes) W ∧ GR w (.slice ra m rc) W (.slice a3 n3 c3)) (fun _ k _ => n - (intOf k).toNat)
  case atStart => exact ⟨0, a2, n2, c2, by omega, rfl, rfl, by simpa using unhide HO2, unhide HG2⟩
  case round =>
    obtain ⟨j, a3, n3, c3, hj, rfl, rfl, hO3, hG3⟩ := hrel
    have HO3 := hide hO3
    have HG3 := hide hG3
    by_cases hlt : j < n
    · have hji : ((j : Nat) : Int) < ((n : Nat) : Int) := by omega
      have hjl : j < l.length := by have := unhide HN; omega
      obtain ⟨b, o, z, K, pa, pn, pc, zo, wd, qt, rfl, _, c0, c1, c2', c3', c4, c5, hx⟩ := (unhide HS j hjl).out
      have hk : ∀ {p : Addr} {x : Value}, w0.cell? p = some x → wr.cell? p = some x := fun hx => (hO3.bb.cell (World.block_lt_of_cell? _ _ hx)).trans hx
      have d0 := hk c0
      have d1 := hk c1
      have d2 := hk c2'
      have d3 := hk c3'
      have d4 := hk c4
      have d5 := hk c5
      obtain ⟨W4, hW4⟩ : ∃ W4, W4 = wr.alloc (.cells #[.string z, .int .u8 ((K : Nat) : Int), .slice pa pn pc, .string zo, .int .i64 wd, .int .i64 qt] 62) := ⟨_, rfl⟩
      have hb4 : Below wr.heap.size wr W4 := by rw [hW4]; exact (Below.refl _ _).alloc (Nat.le_refl _) _
      have hr4 : W4.heap[wr.heap.size]? = some (.cells #[.string z, .int .u8 ((K : Nat) : Int), .slice pa pn pc, .string zo, .int .i64 wd, .int .i64 qt] 62 (0, 0)) := by rw [hW4]; exact heap_alloc_new wr _
      obtain ⟨i0, i1, i2, i3, i4, i5⟩ := cells6 hr4
      have HTS := hide (flat_take_succ FI.bytes hjl)
      have HC := hide (putItem_any l[j] B w0 W4 _ (.slice a3 n3 c3) _ hx (unhide HR _ (List.getElem_mem hjl)) (hO3.later hb4) (unhide HL j))
      have HG4 := hide (hG3.later hb4)
      have HW4 := hide hW4
      clear c0 c1 c2' c3' c4 c5 hx hk hO3 hG3 hb4 hr4 hW4
      generalize FI.bytes l[j] = sb at *
      go_upto_region 5 with fail
      rw [← unhide HW4]
      clear HW4 d0 d1 d2 d3 d4 d5
      go_wp2_with fail
      refine (unhide HC).mono ?_
      rintro e w5 ⟨a5, n5, c5, rfl, hO5, hG5⟩
      have HO5 : Hid (Own w0 (.slice a5 n5 c5) (pre ++ numB ((n : Nat) : Int) ++ (l.take (j + 1)).flatMap FI.bytes) w5) := by
        show Own _ _ _ _
        rw [unhide HTS, ← List.append_assoc]
        exact hO5
      have HG5 := hide ((unhide HG4).trans hG5)
      clear hO5 hG5 i0 i1 i2 i3 i4 i5
      go_wp2_with fail
      exact ⟨⟨j + 1, a5, n5, c5, by omega, by go_num, rfl, unhide HO5, unhide HG5⟩, by simp [intOf]; omega⟩
    · have e : j = n := by omega
      have hji : ¬ ((j : Nat) : Int) < ((n : Nat) : Int) := by omega
      have HO4 : Hid (Own w0 (.slice a3 n3 c3) (pre ++ bytesF l) wr) := by
        show Own _ _ _ _
        rw [unhide HCS]
        rw [e] at hO3
        exact hO3
      clear e hO3 hG3 HO3
      go_wp2_with fail
      go_ret
      exact ⟨a3, n3, c3, rfl, unhide HO4, unhide HG3⟩

/-- What Bytes tells. -/
def BytesM (l : List FI) (w : World) (e : Ending) (w' : World) : Prop := ∃ (pa : Option Addr) (pn pc : Nat) (er : Int) (rs : List UInt8), e = .returned (.tuple #[.slice pa pn pc, .int .i64 er]) ∧ Bytes w' (.slice pa pn pc) rs ∧ Below w.heap.size w w' ∧ ((rightF l = true ∧ er = 0 ∧ rs = bytesF l ∧ Own w (.slice pa pn pc) rs w') ∨ (rightF l = false ∧ er = 2 ∧ rs = [] ∧ pn = 0))

set_option maxRecDepth 100000 in
set_option maxHeartbeats 2000000 in
theorem fBytes_any (l : List FI) (B : Nat → Prop) (u : Value) (w : World) (h : FragAt B w l u) : Calls Tryz.prog 71 #[u] w (BytesM l w) := by
  have HR0 := hide (fRight_any l B u w h)
  obtain ⟨a, c, rfl, hlc, hcm, hS⟩ := h
  have HP0 : Hid (rightF l = true → ∀ W, Below w.heap.size w W → Calls Tryz.prog 92 #[.slice none 0 0, .slice a l.length c, .func (.func 93) #[] #[]] W fun e w' => ∃ a n c, e = .returned (.slice a n c) ∧ Own W (.slice a n c) (bytesF l) w') := fun hr W hW => (putItems_any l B W W (.slice none 0 0) [] l.length c a rfl hr (hS.later hW) (Own.start W) (by simp)).mono fun e w' ⟨a, n, c, he, hO, _⟩ => ⟨a, n, c, he, by simpa using hO⟩
  obtain ⟨n, hn⟩ : ∃ n, n = l.length := ⟨_, rfl⟩
  rw [← hn] at HR0 HP0 ⊢
  clear hS hlc hcm hn
  obtain ⟨rt, hrt⟩ : ∃ rt, rt = rightF l := ⟨_, rfl⟩
  rw [← hrt] at HR0 HP0
  have HRT := hide hrt
  clear hrt
  go_enter Tryz.func71, Tryz.ntmps71
  go_wp2_with fail
  refine (unhide HR0).mono ?_
  rintro e w2 ⟨rfl, hb2⟩
  have HB2 := hide hb2
  clear hb2
  cases rt with
  | false =>
    go_wp2_with fail
    go_ret2
    exact ⟨none, 0, 0, 2, [], rfl, (Own.start _).fresh.1.1, unhide HB2, .inr ⟨(unhide HRT).symm, rfl, rfl, rfl⟩⟩
  | true =>
    go_wp2_with fail
    refine (unhide HP0 trivial _ (unhide HB2)).mono ?_
    rintro e w3 ⟨a3, n3, c3, rfl, hO⟩
    have HO := hide (hO.lift (unhide HB2))
    clear hO
    go_wp2_with fail
    go_ret2
    exact ⟨a3, n3, c3, 0, bytesF l, rfl, (unhide HO).fresh.1.1, (unhide HO).bb, .inl ⟨(unhide HRT).symm, rfl, rfl, unhide HO⟩⟩

set_option maxRecDepth 100000 in
set_option maxHeartbeats 2000000 in
theorem fPut_any (l : List FI) (B : Nat → Prop) (u : Value) (pa : Option Addr) (pn pc : Nat) (bs : List UInt8) (w : World) (h : FragAt B w l u) (hr : rightF l = true) (hp : Bytes w (.slice pa pn pc) bs) (hl : bs.length ≤ 1000000) : Calls Tryz.prog 46 #[.slice pa pn pc, u] w fun e w' => ∃ a n c, e = .returned (.slice a n c) ∧ Own w (.slice a n c) (bs ++ bytesF l) w' := by
  have HB0 := hide (fBytes_any l B u w h)
  have HLE := hide (bytesF_le hr)
  have HP := hide hp
  have HL := hide hl
  have HR := hide hr
  obtain ⟨hbl, -⟩ := bytes_len hp
  have HBL := hide hbl
  obtain ⟨a, c, rfl, -⟩ := h.form
  obtain ⟨n, hn⟩ : ∃ n, n = l.length := ⟨_, rfl⟩
  rw [← hn] at HB0 ⊢
  clear h hr hp hl hbl hn
  go_enter Tryz.func46, Tryz.ntmps46
  go_wp2_with fail
  refine (unhide HB0).mono ?_
  rintro e W2 ⟨ra, rn, rc, er, rs, rfl, hB, hb2, hor⟩
  rcases hor with ⟨-, rfl, rfl, -⟩ | ⟨hf, -⟩
  case inr => exact absurd (unhide HR) (by rw [hf]; simp)
  obtain ⟨hrl, -⟩ := bytes_len hB
  obtain ⟨W3, hW3⟩ : ∃ W3, W3 = W2.alloc (.cells #[.slice pa pn pc, .slice ra rn rc] 28) := ⟨_, rfl⟩
  have hb3 : Below W2.heap.size W2 W3 := by rw [hW3]; exact (Below.refl _ _).alloc (Nat.le_refl _) _
  have hr3 : W3.heap[W2.heap.size]? = some (.cells #[.slice pa pn pc, .slice ra rn rc] 28 (0, 0)) := by rw [hW3]; exact heap_alloc_new _ _
  have HB3 : Hid (Below w.heap.size w W3) := hb2.trans (hb3.mono hb2.size)
  have HRB : Hid (RowsB W3 W2.heap.size [bs, bytesF l]) := fun i x hx => by
    match i, hx with
    | 0, hx =>
      have hx : bs = x := by simpa using hx
      subst hx
      exact ⟨pa, pc, by rw [unhide HBL]; exact cell_of_row _ _ 0 _ _ _ hr3, by rw [unhide HBL]; exact (unhide HP).kept fun k _ hk => (unhide HB3).block k hk⟩
    | 1, hx =>
      have hx : bytesF l = x := by simpa using hx
      subst hx
      exact ⟨ra, rc, by rw [hrl]; exact cell_of_row _ _ 1 _ _ _ hr3, by rw [hrl]; exact hB.kept fun k _ hk => hb3.block k hk⟩
  have HC : Hid (Calls Tryz.prog 70 #[.slice (some ⟨W2.heap.size, 0, none⟩) 2 2] W3 fun e w' => ∃ a n c, e = .returned (.slice a n c) ∧ Own W3 (.slice a n c) (bs ++ bytesF l) w') := (concatV_any W2.heap.size 2 [bs, bytesF l] W3 (unhide HRB) (by unfold flatLen; have := unhide HL; have := unhide HLE; simp; omega) (by simp)).mono fun e w' ⟨v, he, hO⟩ => by
    obtain ⟨a, c, rfl, -⟩ := own_formS hO
    exact ⟨a, _, c, he, by simpa using hO⟩
  have HW3 := hide hW3
  clear hB hb2 hW3 hb3 hr3 HRB hrl
  go_wp2_with fail
  rw [← unhide HW3]
  refine (unhide HC).mono ?_
  rintro e W4 ⟨a4, n4, c4, rfl, hO4⟩
  have HO4 := hide (hO4.lift (unhide HB3))
  clear hO4
  go_wp2_with fail
  go_ret
  exact ⟨a4, n4, c4, rfl, unhide HO4⟩
end Go.Proofs.YtdlbpbglidhlfaaGreatDoor

namespace Go.Proofs.YtdlbpbglidhlfaaGreatDoor
open Go.RowKit

theorem VD.bytes_le (v : VD) : v.kinds = true → v.Fits → v.bytes.length ≤ 130 * v.parts := by
  induction v using VD.induct with
  | h v ih =>
    intro hk hf
    rcases VD.kinds_cases hk with ⟨n, rfl⟩ | ⟨s, rfl, hs⟩ | ⟨l, rfl, hl, hkl⟩
    · have h0 := numB_ten (n := 0) (by unfold InR; omega)
      have h1 := numB_ten hf.n
      simp only [VD.bytes, VD.parts, VD.partsL, List.length_append, VD.n] at *
      omega
    · have h0 := numB_ten (n := 1) (by unfold InR; omega)
      have h1 := numB_ten (n := ((s.length : Nat) : Int)) (by unfold InR; omega)
      simp only [VD.bytes, VD.parts, VD.partsL, textB, List.length_append] at *
      omega
    · have h0 := numB_ten (n := 2) (by unfold InR; omega)
      have h1 := numB_ten (n := ((l.length : Nat) : Int)) (by unfold InR; omega)
      have h2 : ∀ q : List VD, (∀ x ∈ q, x ∈ l) → (VD.bytesL q).length ≤ 130 * VD.partsL q := by
        intro q
        induction q with
        | nil => intro _; simp [VD.bytesL]
        | cons x q ih2 =>
          intro hq
          have hx := hq x (by simp)
          have a1 := ih x hx (hkl x hx) (hf.mem hx)
          have a2 := ih2 fun y hy => hq y (by simp [hy])
          simp only [VD.bytesL, VD.partsL, List.length_append]
          omega
      have h3 := h2 l fun x hx => hx
      have e : VD.bytes (.mk 2 0 [] l) = numB ((2 : Nat) : Int) ++ (numB ((l.length : Nat) : Int) ++ VD.bytesL l) := rfl
      have h0 : (numB ((2 : Nat) : Int)).length ≤ 10 := h0
      rw [e]
      simp only [VD.parts, List.length_append] at *
      omega
theorem VD.bytesL_take_le {v : VD} (hk : ∀ x ∈ v.l, x.kinds = true) (hf : v.Fits) (j : Nat) : (VD.bytesL (v.l.take j)).length ≤ 130 * VD.partsL v.l := by
  have h2 : ∀ q : List VD, (∀ x ∈ q, x ∈ v.l) → (VD.bytesL q).length ≤ 130 * VD.partsL q := by
    intro q
    induction q with
    | nil => intro _; simp [VD.bytesL]
    | cons x q ih2 =>
      intro hq
      have hx := hq x (by simp)
      have a1 := VD.bytes_le x (hk x hx) (hf.mem hx)
      have a2 := ih2 fun y hy => hq y (by simp [hy])
      simp only [VD.bytesL, VD.partsL, List.length_append]
      omega
  have h3 := h2 (v.l.take j) fun x hx => List.mem_of_mem_take hx
  have h4 := VD.partsL_take v.l j
  omega

set_option maxRecDepth 100000 in
set_option maxHeartbeats 4000000 in
theorem vRefBytes_any (v : VD) : ∀ (B : Nat → Prop) (u : Value) (w : World), v.At B w u → v.parts ≤ 1000000 → v.kinds = true → Calls Tryz.prog 35 #[u] w fun e w' => ∃ r, e = .returned r ∧ Own w r v.bytes w' := by
  induction v using VD.induct with
  | h v ih =>
    intro B u w hA hm hkd
    obtain ⟨ti, hti, hz0, hz1, hz2⟩ := infoByte
    have hfit := hA.fits
    obtain ⟨a, c, rfl, hlc, hbox⟩ := hA.box
    have hbx := hbox 24
    obtain ⟨w1, hw1⟩ : ∃ w1, w1 = w.alloc (.cells #[.int .u8 ((v.k : Nat) : Int), .int .i64 v.n, .string ⟨v.s.toArray⟩, .slice a v.l.length c] 24) := ⟨_, rfl⟩
    have HB1 : Hid (Below w.heap.size w w1) := by rw [hw1]; exact (Below.refl _ w).alloc (Nat.le_refl _) _
    rw [← hw1] at hbx
    have HBX := hide hbx
    have HW1 := hide hw1
    have HM := hide hm
    have HIH := hide ih
    have HFT := hide hfit
    have HPM := hide v.parts_mk
    have HBL := hide (VD.bytes_le v hkd hfit)
    clear hA hbox hm ih hfit hw1
    have c0 := hbx.c0
    have c1 := hbx.c1
    have c2 := hbx.c2
    have c3 := hbx.c3
    clear hbx
    rcases VD.kinds_cases hkd with ⟨n, rfl⟩ | ⟨s, rfl, hs⟩ | ⟨l, rfl, hl, hkl⟩
    · simp only [VD.k, VD.n, VD.s, VD.l, List.length_nil] at HW1 c0 c1 c2 c3 ⊢
      rw [show ((0 : Nat) : Int) = 0 from rfl] at HW1 c0 ⊢
      have HR0 : Hid (InR 0) := by show InR _; unfold InR; omega
      have HRN : Hid (InR n) := (unhide HFT).n
      have HBD : Hid (VD.bytes (.mk 0 n [] []) = numB 0 ++ numB n) := rfl
      have HTS : Hid ((numB 0).length + (numB n).length ≤ 140737488355328) := by show _ ≤ _; have := numB_ten (unhide HR0); have := numB_ten (unhide HRN); omega
      go_enter Tryz.func35, Tryz.ntmps35
      go_upto_region 1 with fail
      rw [← unhide HW1]
      go_wp2_with fail
      refine (wRefNum_any 0 (unhide HR0) _).mono ?_
      rintro e w2 ⟨r, rfl, hO⟩
      have HO := hide (hO.lift (unhide HB1))
      have hk : ∀ {p : Addr} {x : Value}, w1.cell? p = some x → w2.cell? p = some x := fun hx => (hO.bb.cell (World.block_lt_of_cell? _ _ hx)).trans hx
      have d0 := hk c0
      have d1 := hk c1
      clear hO hk c0 c1 c2 c3 HW1 HBX
      go_wp2_with fail
      refine (wRefNum_any n (unhide HRN) _).mono ?_
      rintro e w3 ⟨r3, rfl, hO3⟩
      have HO2 := hide ((unhide HO).later hO3.bb)
      have HB3 := hide hO3.fresh.1.1
      clear hO3 d0 d1
      go_wp2_with (at_builtin; refine wpList_append_bytes _ rfl _ _ 28 rfl 5 ti (.int .u8 0) Tryz.underlying28 hti hz0 hz1 hz2 rfl _ (numB 0) rfl (unhide HO2).own _ (numB n) rfl (unhide HB3) (unhide HTS) ?_)
      rintro v' w4 r1 r2 r3
      have HO4 := hide ((unhide HO2).grown (cs := numB 0 ++ numB n) (by simpa using r1) r2 r3)
      clear r1 r2 r3
      go_wp2
      go_ret
      exact ⟨_, rfl, by rw [unhide HBD]; exact unhide HO4⟩
    · simp only [VD.k, VD.n, VD.s, VD.l, List.length_nil] at HW1 c0 c1 c2 c3 ⊢
      rw [show ((1 : Nat) : Int) = 1 from rfl] at HW1 c0 ⊢
      have HR0 : Hid (InR 1) := by show InR _; unfold InR; omega
      have HBD : Hid (VD.bytes (.mk 1 0 s []) = numB 1 ++ textB s) := rfl
      have HTS : Hid ((numB 1).length + (textB s).length ≤ 140737488355328) := by show _ ≤ _; have := numB_ten (unhide HR0); have := numB_ten (n := ((s.length : Nat) : Int)) (by unfold InR; omega); rw [textB, List.length_append]; omega
      have HST : Hid (∀ W, Calls Tryz.prog 34 #[.string ⟨s.toArray⟩] W fun e w' => ∃ r, e = .returned r ∧ Own W r (textB s) w') := fun W => wRefText_any s (by omega) W
      generalize (⟨s.toArray⟩ : ByteArray) = z at *
      go_enter Tryz.func35, Tryz.ntmps35
      go_upto_region 1 with fail
      rw [← unhide HW1]
      go_wp2_with fail
      refine (wRefNum_any 1 (unhide HR0) _).mono ?_
      rintro e w2 ⟨r, rfl, hO⟩
      have HO := hide (hO.lift (unhide HB1))
      have hk : ∀ {p : Addr} {x : Value}, w1.cell? p = some x → w2.cell? p = some x := fun hx => (hO.bb.cell (World.block_lt_of_cell? _ _ hx)).trans hx
      have d0 := hk c0
      have d2 := hk c2
      clear hO hk c0 c1 c2 c3 HW1 HBX
      go_wp2_with fail
      refine (unhide HST _).mono ?_
      rintro e w3 ⟨r3, rfl, hO3⟩
      have HO2 := hide ((unhide HO).later hO3.bb)
      have HB3 := hide hO3.fresh.1.1
      clear hO3 d0 d2
      go_wp2_with (at_builtin; refine wpList_append_bytes _ rfl _ _ 28 rfl 5 ti (.int .u8 0) Tryz.underlying28 hti hz0 hz1 hz2 rfl _ (numB 1) rfl (unhide HO2).own _ (textB s) rfl (unhide HB3) (unhide HTS) ?_)
      rintro v' w4 r1 r2 r3
      have HO4 := hide ((unhide HO2).grown (cs := numB 1 ++ textB s) (by simpa using r1) r2 r3)
      clear r1 r2 r3
      go_wp2
      go_ret
      exact ⟨_, rfl, by rw [unhide HBD]; exact unhide HO4⟩
    · have HEL := hide (unhide HBX).el
      have HBTL : Hid (∀ j, (VD.bytesL (l.take j)).length ≤ 130 * VD.partsL l) := fun j => VD.bytesL_take_le (v := .mk 2 0 [] l) hkl (unhide HFT) j
      simp only [VD.k, VD.n, VD.s, VD.l] at HW1 c0 c1 c2 c3 HEL HPM HIH ⊢
      rw [show ((2 : Nat) : Int) = 2 from rfl] at HW1 c0 ⊢
      have HKL := hide hkl
      have HR0 : Hid (InR 2) := by show InR _; unfold InR; omega
      have HRL : Hid (InR ((l.length : Nat) : Int)) := by show InR _; unfold InR; omega
      have HBD : Hid (VD.bytes (.mk 2 0 [] l) = numB 2 ++ numB ((l.length : Nat) : Int) ++ VD.bytesL l) := by show _ = _; rw [List.append_assoc]; rfl
      obtain ⟨n, hn⟩ : ∃ n, n = l.length := ⟨_, rfl⟩
      rw [← hn] at HW1 c3 HRL HBD hl ⊢
      have HN := hide hn
      have HTS : Hid ((numB 2).length + (numB ((n : Nat) : Int)).length ≤ 140737488355328) := by show _ ≤ _; have := numB_ten (unhide HR0); have := numB_ten (unhide HRL); omega
      clear hn hkl
      go_enter Tryz.func35, Tryz.ntmps35
      go_upto_region 1 with fail
      rw [← unhide HW1]
      go_wp2_with fail
      refine (wRefNum_any 2 (unhide HR0) _).mono ?_
      rintro e w2 ⟨r, rfl, hO⟩
      have HO := hide hO
      have hk : ∀ {p : Addr} {x : Value}, w1.cell? p = some x → w2.cell? p = some x := fun hx => (hO.bb.cell (World.block_lt_of_cell? _ _ hx)).trans hx
      have d0 := hk c0
      have d3 := hk c3
      clear hO hk HW1
      go_wp2_with fail
      refine (wRefNum_any _ (unhide HRL) _).mono ?_
      rintro e w3 ⟨r3, rfl, hO3⟩
      have HO2 := hide ((unhide HO).later hO3.bb)
      have HB3 := hide hO3.fresh.1.1
      clear hO3 d0 d3
      go_wp2_with (at_builtin; refine wpList_append_bytes _ rfl _ _ 28 rfl 5 ti (.int .u8 0) Tryz.underlying28 hti hz0 hz1 hz2 rfl _ (numB 2) rfl (unhide HO2).own _ (numB ((n : Nat) : Int)) rfl (unhide HB3) (unhide HTS) ?_)
      rintro v' w4 r1 r2 r3
      have HO4 := hide ((unhide HO2).grown (cs := numB 2 ++ numB ((n : Nat) : Int)) (by simpa using r1) r2 r3)
      have HPT : Hid ((numB 2 ++ numB ((n : Nat) : Int)).length ≤ 20) := by show _ ≤ _; have := numB_ten (unhide HR0); have := numB_ten (unhide HRL); rw [List.length_append]; omega
      clear r1 r2 r3 HO HO2 HB3 HTS
      generalize numB 2 ++ numB ((n : Nat) : Int) = Pf at *
      go_wp2
      go_loopw [3, 4] (fun r k W => ∃ j : Nat, j ≤ n ∧ k = .int .i64 ((j : Nat) : Int) ∧ Own w1 r (Pf ++ VD.bytesL (l.take j)) W) (fun _ k _ => n - (intOf k).toNat)
      case atStart => exact ⟨0, by omega, rfl, by simpa [VD.bytesL] using unhide HO4⟩
      case round =>
        obtain ⟨j, hj, rfl, hO⟩ := hrel
        have HO := hide hO
        have hk : ∀ {p : Addr} {x : Value}, w1.cell? p = some x → wr.cell? p = some x := fun hx => (hO.bb.cell (World.block_lt_of_cell? _ _ hx)).trans hx
        have d3 := hk c3
        clear hO
        by_cases hlt : j < n
        · have hji : ((j : Nat) : Int) < ((n : Nat) : Int) := by omega
          have hjl : j < l.length := by have := unhide HN; omega
          obtain ⟨b, o, e0, e1, e2, e3, rfl, _, x0, x1, x2, x3, he⟩ := unhide HEL j hjl
          have y0 := hk x0
          have y1 := hk x1
          have y2 := hk x2
          have y3 := hk x3
          have hmem : l[j] ∈ l := List.getElem_mem hjl
          have hpl := VD.parts_mem hmem
          have HTS : Hid (VD.bytesL (l.take (j + 1)) = VD.bytesL (l.take j) ++ (l[j]).bytes) := by
            show _ = _
            rw [List.take_succ_eq_append_getElem hjl, VD.bytesL_append]
            simp [VD.bytesL]
          have HLE : Hid ((Pf ++ VD.bytesL (l.take j)).length + (l[j]).bytes.length ≤ 140737488355328) := by
            show _ ≤ _
            have h1 := unhide HBTL (j + 1)
            rw [unhide HTS, List.length_append] at h1
            rw [List.length_append]
            have := unhide HPT; have := unhide HM; have h5 := unhide HPM
            simp only [VD.parts] at *
            omega
          have HC : Hid (Calls Tryz.prog 35 #[.agg #[e0, e1, e2, e3]] wr fun e w' => ∃ r, e = .returned r ∧ Own wr r (l[j]).bytes w') := unhide HIH _ hmem B _ wr (he.later (unhide HO).bb) (by have := unhide HM; have h5 := unhide HPM; simp only [VD.parts] at *; omega) (unhide HKL _ hmem)
          generalize (l[j]).bytes = bj at *
          clear he hpl hmem x0 x1 x2 x3 hk c0 c1 c2 c3
          go_wp2_with fail
          refine (unhide HC).mono ?_
          rintro e w5 ⟨r5, rfl, hO5⟩
          have HO5 := hide ((unhide HO).later hO5.bb)
          have HB5 := hide hO5.fresh.1.1
          clear hO5 d3 y0 y1 y2 y3
          go_wp2_with (at_builtin; refine wpList_append_bytes _ rfl _ _ 28 rfl 5 ti (.int .u8 0) Tryz.underlying28 hti hz0 hz1 hz2 rfl _ (Pf ++ VD.bytesL (l.take j)) rfl (unhide HO5).own _ bj rfl (unhide HB5) (unhide HLE) ?_)
          rintro v' w6 r1 r2 r3
          have HO6 := hide ((unhide HO5).grown (cs := (Pf ++ VD.bytesL (l.take j)) ++ bj) (by simpa using r1) r2 r3)
          clear r1 r2 r3
          go_wp2
          exact ⟨⟨j + 1, by omega, by go_num, by rw [unhide HTS, ← List.append_assoc]; exact unhide HO6⟩, by simp [intOf]; omega⟩
        · have e : j = n := by omega
          have hji : ¬ ((j : Nat) : Int) < ((n : Nat) : Int) := by omega
          have HTK : Hid (l.take j = l) := List.take_of_length_le (by have := unhide HN; omega)
          rw [unhide HTK] at HO
          have HFB := hide ((unhide HO).lift (unhide HB1))
          clear e hk c0 c1 c2 c3
          go_wp2
          go_ret
          exact ⟨_, rfl, by rw [unhide HBD]; exact unhide HFB⟩
end Go.Proofs.YtdlbpbglidhlfaaGreatDoor

namespace Go.Proofs.YtdlbpbglidhlfaaGreatDoor
open Go.RowKit

/-- A row under way beside a struct in a block of its own. -/
structure Sd (w0 : World) (g : Nat) (row : Array Value) (r : Value) (bs : List UInt8) (W : World) : Prop where
  own : Own w0 r bs W
  box : W.heap[g]? = some (.cells row 24 (0, 0))
  ne : r.ownBlock ≠ some g
theorem Sd.later {w0 W W' : World} {g : Nat} {row : Array Value} {r : Value} {bs : List UInt8} (h : Sd w0 g row r bs W) (hb : Below W.heap.size W W') : Sd w0 g row r bs W' :=
  ⟨h.own.later hb, (hb.block _ (lt_rowV h.box)).trans h.box, h.ne⟩
theorem Sd.grown {w0 W W' : World} {g : Nat} {row : Array Value} {r r' : Value} {bs cs : List UInt8} (h : Sd w0 g row r bs W) (r1 : W'.ownsRow 0 5 1 r' cs.length (cs.map bv)) (r2 : W.grownBy W' r.ownBlock) (r3 : r'.ownBlock = r.ownBlock ∨ ∃ k, r'.ownBlock = some k ∧ W.heap.size ≤ k) : Sd w0 g row r' cs W' :=
  ⟨h.own.grown r1 r2 r3, (r2.block g (lt_rowV h.box) (fun e => h.ne e.symm)).trans h.box, fun e => by
    rcases r3 with e2 | ⟨k, e2, hle⟩
    · rw [e2] at e; exact h.ne e
    · rw [e2] at e; cases e; have := lt_rowV h.box; omega⟩
theorem Sd.cells {w0 W : World} {g : Nat} {v0 v1 v2 v3 : Value} {r : Value} {bs : List UInt8} (h : Sd w0 g #[v0, v1, v2, v3] r bs W) : W.cell? ⟨g, 0, none⟩ = some v0 ∧ W.cell? ⟨g, 1, none⟩ = some v1 ∧ W.cell? ⟨g, 2, none⟩ = some v2 ∧ W.cell? ⟨g, 3, none⟩ = some v3 := (cells4 h.box).1
theorem VD.bytesL_take_len (l : List VD) (j : Nat) : (VD.bytesL (l.take j)).length ≤ (VD.bytesL l).length := by
  have := VD.bytesL_append (l.take j) (l.drop j)
  rw [List.take_append_drop] at this
  rw [this, List.length_append]
  omega
theorem numNil_any (n : Int) (hn : InR n) (w : World) : Calls Tryz.prog 43 #[.slice none 0 0, .int .i64 n] w fun e w' => ∃ v, e = .returned v ∧ Own w v (numB n) w' :=
  (wNum_any _ [] n hn w ((Own.start w).fresh.1.1) (by simp)).mono fun e w' h => by simpa using h
theorem textNil_any (s : List UInt8) (hs : s.length ≤ 1048576) (w : World) : Calls Tryz.prog 44 #[.slice none 0 0, .string ⟨s.toArray⟩] w fun e w' => ∃ v, e = .returned v ∧ Own w v (textB s) w' :=
  (wText_any _ [] s w ((Own.start w).fresh.1.1) (by simp) hs).mono fun e w' h => by simpa using h

set_option maxRecDepth 100000 in
set_option maxHeartbeats 600000 in
theorem said_any (v : VD) : ∀ (B : Nat → Prop) (u r : Value) (pre : List UInt8) (w0 w : World), v.At B w0 u → Own w0 r pre w → v.kinds = true → pre.length + v.bytes.length ≤ 1000000000 →
    Calls Tryz.prog 90 #[r, u] w fun e w' => ∃ r', e = .returned r' ∧ Own w0 r' (pre ++ v.bytes) w' := by
  induction v using VD.induct with
  | h v ih =>
    intro B u r pre w0 w hA hO hkd hlen
    obtain ⟨ti, hti, hz0, hz1, hz2⟩ := infoByte
    have hfit := hA.fits
    obtain ⟨a, c, rfl, hlc, -⟩ := hA.box
    have HEL := hide hA.elems
    obtain ⟨w1, hw1⟩ : ∃ w1, w1 = w.alloc (.cells #[.int .u8 ((v.k : Nat) : Int), .int .i64 v.n, .string ⟨v.s.toArray⟩, .slice a v.l.length c] 24) := ⟨_, rfl⟩
    have hb1 : Below w.heap.size w w1 := by rw [hw1]; exact (Below.refl _ w).alloc (Nat.le_refl _) _
    have hr1 : w1.heap[w.heap.size]? = some (.cells #[.int .u8 ((v.k : Nat) : Int), .int .i64 v.n, .string ⟨v.s.toArray⟩, .slice a v.l.length c] 24 (0, 0)) := by rw [hw1]; exact heap_alloc_new w _
    have HSD : Hid (Sd w0 w.heap.size #[.int .u8 ((v.k : Nat) : Int), .int .i64 v.n, .string ⟨v.s.toArray⟩, .slice a v.l.length c] r pre w1) := ⟨hO.later hb1, hr1, fun e => by have := (hO.own.lt _ e).2; omega⟩
    have HW1 := hide hw1
    have HIH := hide ih
    have HFT := hide hfit
    have HLN := hide hlen
    obtain ⟨c0, c1, c2, c3⟩ := (unhide HSD).cells
    clear hA hO ih hfit hw1 hb1 hr1 hlen
    rcases VD.kinds_cases hkd with ⟨n, rfl⟩ | ⟨s, rfl, hs⟩ | ⟨l, rfl, hl, hkl⟩
    · simp only [VD.k, VD.n, VD.s, VD.l, List.length_nil] at HW1 HSD c0 c1 c2 c3 ⊢
      rw [show ((0 : Nat) : Int) = 0 from rfl] at HW1 HSD c0 ⊢
      have HR0 : Hid (InR 0) := by show InR _; unfold InR; omega
      have HRN : Hid (InR n) := (unhide HFT).n
      have HBD : Hid (pre ++ VD.bytes (.mk 0 n [] []) = (pre ++ numB 0) ++ numB n) := by show _ = _; rw [List.append_assoc]; rfl
      have HLL : Hid (pre.length + (numB 0).length + (numB n).length ≤ 1000000000) := by
        show _ ≤ _
        have h1 := unhide HLN
        have e : VD.bytes (.mk 0 n [] []) = numB 0 ++ numB n := rfl
        rw [e, List.length_append] at h1
        omega
      go_enter Tryz.func90, Tryz.ntmps90
      go_upto_region 1 with fail
      rw [← unhide HW1]
      clear HW1
      go_wp2_with fail
      refine (numNil_any 0 (unhide HR0) _).mono ?_
      rintro e w2 ⟨r2, rfl, hO2⟩
      have HS2 := hide ((unhide HSD).later hO2.bb)
      have HB2 := hide hO2.fresh.1.1
      clear hO2 c0 c1 c2 c3 HSD
      go_wp2_with (at_builtin; refine wpList_append_bytes _ rfl _ _ 28 rfl 5 ti (.int .u8 0) Tryz.underlying28 hti hz0 hz1 hz2 rfl _ pre rfl (unhide HS2).own.own _ (numB 0) rfl (unhide HB2) (by have := unhide HLL; omega) ?_)
      rintro v' w4 r1 r2 r3
      have HS4 := hide ((unhide HS2).grown (cs := pre ++ numB 0) (by simpa using r1) r2 r3)
      clear r1 r2 r3 HS2 HB2
      obtain ⟨c0, c1, c2, c3⟩ := (unhide HS4).cells
      go_wp2_with fail
      refine (numNil_any n (unhide HRN) _).mono ?_
      rintro e w5 ⟨r5, rfl, hO5⟩
      have HS5 := hide ((unhide HS4).later hO5.bb)
      have HB5 := hide hO5.fresh.1.1
      clear hO5 c0 c1 c2 c3 HS4
      go_wp2_with (at_builtin; refine wpList_append_bytes _ rfl _ _ 28 rfl 5 ti (.int .u8 0) Tryz.underlying28 hti hz0 hz1 hz2 rfl _ (pre ++ numB 0) rfl (unhide HS5).own.own _ (numB n) rfl (unhide HB5) (by rw [List.length_append]; have := unhide HLL; omega) ?_)
      rintro v6 w6 r1 r2 r3
      have HS6 := hide ((unhide HS5).own.grown (cs := (pre ++ numB 0) ++ numB n) (by simpa using r1) r2 r3)
      clear r1 r2 r3 HS5 HB5
      go_wp2
      go_ret
      exact ⟨_, rfl, by rw [unhide HBD]; exact unhide HS6⟩
    · simp only [VD.k, VD.n, VD.s, VD.l, List.length_nil] at HW1 HSD c0 c1 c2 c3 ⊢
      rw [show ((1 : Nat) : Int) = 1 from rfl] at HW1 HSD c0 ⊢
      have HR0 : Hid (InR 1) := by show InR _; unfold InR; omega
      have HBD : Hid (pre ++ VD.bytes (.mk 1 0 s []) = (pre ++ numB 1) ++ textB s) := by show _ = _; rw [List.append_assoc]; rfl
      have HLL : Hid (pre.length + (numB 1).length + (textB s).length ≤ 1000000000) := by
        show _ ≤ _
        have h1 := unhide HLN
        have e : VD.bytes (.mk 1 0 s []) = numB 1 ++ textB s := rfl
        rw [e, List.length_append] at h1
        omega
      have HST : Hid (∀ W, Calls Tryz.prog 44 #[.slice none 0 0, .string ⟨s.toArray⟩] W fun e w' => ∃ r, e = .returned r ∧ Own W r (textB s) w') := fun W => textNil_any s (by omega) W
      generalize (⟨s.toArray⟩ : ByteArray) = z at *
      go_enter Tryz.func90, Tryz.ntmps90
      go_upto_region 1 with fail
      rw [← unhide HW1]
      clear HW1
      go_wp2_with fail
      refine (numNil_any 1 (unhide HR0) _).mono ?_
      rintro e w2 ⟨r2, rfl, hO2⟩
      have HS2 := hide ((unhide HSD).later hO2.bb)
      have HB2 := hide hO2.fresh.1.1
      clear hO2 c0 c1 c2 c3 HSD
      go_wp2_with (at_builtin; refine wpList_append_bytes _ rfl _ _ 28 rfl 5 ti (.int .u8 0) Tryz.underlying28 hti hz0 hz1 hz2 rfl _ pre rfl (unhide HS2).own.own _ (numB 1) rfl (unhide HB2) (by have := unhide HLL; omega) ?_)
      rintro v' w4 r1 r2 r3
      have HS4 := hide ((unhide HS2).grown (cs := pre ++ numB 1) (by simpa using r1) r2 r3)
      clear r1 r2 r3 HS2 HB2
      obtain ⟨c0, c1, c2, c3⟩ := (unhide HS4).cells
      go_wp2_with fail
      refine (unhide HST _).mono ?_
      rintro e w5 ⟨r5, rfl, hO5⟩
      have HS5 := hide ((unhide HS4).later hO5.bb)
      have HB5 := hide hO5.fresh.1.1
      clear hO5 c0 c1 c2 c3 HS4
      go_wp2_with (at_builtin; refine wpList_append_bytes _ rfl _ _ 28 rfl 5 ti (.int .u8 0) Tryz.underlying28 hti hz0 hz1 hz2 rfl _ (pre ++ numB 1) rfl (unhide HS5).own.own _ (textB s) rfl (unhide HB5) (by rw [List.length_append]; have := unhide HLL; omega) ?_)
      rintro v6 w6 r1 r2 r3
      have HS6 := hide ((unhide HS5).own.grown (cs := (pre ++ numB 1) ++ textB s) (by simpa using r1) r2 r3)
      clear r1 r2 r3 HS5 HB5
      go_wp2
      go_ret
      exact ⟨_, rfl, by rw [unhide HBD]; exact unhide HS6⟩
    · simp only [VD.k, VD.n, VD.s, VD.l] at HW1 HSD c0 c1 c2 c3 HEL HIH ⊢
      rw [show ((2 : Nat) : Int) = 2 from rfl] at HW1 HSD c0 ⊢
      have HKL := hide hkl
      have HR0 : Hid (InR 2) := by show InR _; unfold InR; omega
      have HRL : Hid (InR ((l.length : Nat) : Int)) := by show InR _; unfold InR; omega
      have HBD : Hid (pre ++ VD.bytes (.mk 2 0 [] l) = (pre ++ numB 2 ++ numB ((l.length : Nat) : Int)) ++ VD.bytesL l) := by show _ = _; rw [List.append_assoc, List.append_assoc]; rfl
      have HLL : Hid (pre.length + (numB 2).length + (numB ((l.length : Nat) : Int)).length + (VD.bytesL l).length ≤ 1000000000) := by
        show _ ≤ _
        have h1 := unhide HLN
        have e : VD.bytes (.mk 2 0 [] l) = numB 2 ++ (numB ((l.length : Nat) : Int) ++ VD.bytesL l) := rfl
        rw [e, List.length_append, List.length_append] at h1
        omega
      obtain ⟨n, hn⟩ : ∃ n, n = l.length := ⟨_, rfl⟩
      rw [← hn] at HW1 HSD c3 HRL HBD HLL hl ⊢
      have HN := hide hn
      clear hn hkl
      go_enter Tryz.func90, Tryz.ntmps90
      go_upto_region 1 with fail
      rw [← unhide HW1]
      clear HW1
      go_wp2_with fail
      refine (numNil_any 2 (unhide HR0) _).mono ?_
      rintro e w2 ⟨r2, rfl, hO2⟩
      have HS2 := hide ((unhide HSD).later hO2.bb)
      have HB2 := hide hO2.fresh.1.1
      clear hO2 c0 c1 c2 c3 HSD
      go_wp2_with (at_builtin; refine wpList_append_bytes _ rfl _ _ 28 rfl 5 ti (.int .u8 0) Tryz.underlying28 hti hz0 hz1 hz2 rfl _ pre rfl (unhide HS2).own.own _ (numB 2) rfl (unhide HB2) (by have := unhide HLL; omega) ?_)
      rintro v' w4 r1 r2 r3
      have HS4 := hide ((unhide HS2).grown (cs := pre ++ numB 2) (by simpa using r1) r2 r3)
      clear r1 r2 r3 HS2 HB2
      obtain ⟨c0, c1, c2, c3⟩ := (unhide HS4).cells
      go_wp2_with fail
      refine (numNil_any _ (unhide HRL) _).mono ?_
      rintro e w5 ⟨r5, rfl, hO5⟩
      have HS5 := hide ((unhide HS4).later hO5.bb)
      have HB5 := hide hO5.fresh.1.1
      clear hO5 c0 c1 c2 c3 HS4
      go_wp2_with (at_builtin; refine wpList_append_bytes _ rfl _ _ 28 rfl 5 ti (.int .u8 0) Tryz.underlying28 hti hz0 hz1 hz2 rfl _ (pre ++ numB 2) rfl (unhide HS5).own.own _ (numB ((n : Nat) : Int)) rfl (unhide HB5) (by rw [List.length_append]; have := unhide HLL; omega) ?_)
      rintro v6 w6 r1 r2 r3
      have HS6 := hide ((unhide HS5).grown (cs := (pre ++ numB 2) ++ numB ((n : Nat) : Int)) (by simpa using r1) r2 r3)
      clear r1 r2 r3 HS5 HB5
      obtain ⟨c0, c1, c2, c3⟩ := (unhide HS6).cells
      have HO6 := hide (unhide HS6).own
      obtain ⟨Pf, hPf⟩ : ∃ Pf, Pf = pre ++ numB 2 ++ numB ((n : Nat) : Int) := ⟨_, rfl⟩
      have HPL : Hid (Pf.length + (VD.bytesL l).length ≤ 1000000000) := by show _ ≤ _; rw [hPf, List.length_append, List.length_append]; exact unhide HLL
      rw [← hPf] at HO6 HBD
      clear hPf HS6 HLL
      go_wp2
      clear c0 c1 c2 c3
      go_loopw [0, 38] (fun r k W => ∃ (j : Nat) (ra : Value), j ≤ n ∧ k = .int .i64 ((j : Nat) : Int) ∧ ra = r ∧ Own w0 ra (Pf ++ VD.bytesL (l.take j)) W) (fun _ k _ => n - (intOf k).toNat)
      case atStart => exact ⟨0, _, by omega, rfl, rfl, by simpa [VD.bytesL] using unhide HO6⟩
      case round =>
        obtain ⟨j, ra, hj, rfl, rfl, hO⟩ := hrel
        have HO := hide hO
        by_cases hlt : j < n
        · have hji : ((j : Nat) : Int) < ((n : Nat) : Int) := by omega
          have hjl : j < l.length := by have := unhide HN; omega
          obtain ⟨b, o, eK, el, ec, eN, ez, ea, rfl, _, x0, x1, x2, x3, he⟩ := (unhide HEL j hjl).out
          have hk : ∀ {p : Addr} {x : Value}, w0.cell? p = some x → wr.cell? p = some x := fun hx => (hO.bb.cell (World.block_lt_of_cell? _ _ hx)).trans hx
          have y0 := hk x0
          have y1 := hk x1
          have y2 := hk x2
          have y3 := hk x3
          have hmem : l[j] ∈ l := List.getElem_mem hjl
          have HTS : Hid (VD.bytesL (l.take (j + 1)) = VD.bytesL (l.take j) ++ (l[j]).bytes) := by
            show _ = _
            rw [List.take_succ_eq_append_getElem hjl, VD.bytesL_append]
            simp [VD.bytesL]
          have hle : (Pf ++ VD.bytesL (l.take j)).length + (l[j]).bytes.length ≤ 1000000000 := by
            have h1 := VD.bytesL_take_len l (j + 1)
            rw [unhide HTS, List.length_append] at h1
            rw [List.length_append]
            have := unhide HPL
            omega
          obtain ⟨W4, hW4⟩ : ∃ W4, W4 = wr.alloc (.cells #[.int .u8 ((eK : Nat) : Int), .int .i64 eN, .string ez, .slice ea el ec] 24) := ⟨_, rfl⟩
          have hb4 : Below wr.heap.size wr W4 := by rw [hW4]; exact (Below.refl _ _).alloc (Nat.le_refl _) _
          have hr4 : W4.heap[wr.heap.size]? = some (.cells #[.int .u8 ((eK : Nat) : Int), .int .i64 eN, .string ez, .slice ea el ec] 24 (0, 0)) := by rw [hW4]; exact heap_alloc_new wr _
          obtain ⟨⟨i0, i1, i2, i3⟩, -⟩ := cells4 hr4
          have HC : Hid (Calls Tryz.prog 90 #[ra, .agg #[.int .u8 ((eK : Nat) : Int), .int .i64 eN, .string ez, .slice ea el ec]] W4 fun e w' => ∃ r', e = .returned r' ∧ Own w0 r' ((Pf ++ VD.bytesL (l.take j)) ++ (l[j]).bytes) w') := unhide HIH _ hmem B _ ra _ w0 W4 he (hO.later hb4) (unhide HKL _ hmem) hle
          have HW4 := hide hW4
          generalize (l[j]).bytes = bj at *
          clear he hmem x0 x1 x2 x3 hk hO hb4 hr4 hW4 hle
          go_upto_region 11 with fail
          rw [← unhide HW4]
          clear HW4 y0 y1 y2 y3
          go_wp2_with fail
          refine (unhide HC).mono ?_
          rintro e w7 ⟨r7, rfl, hO7⟩
          have HO7 := hide hO7
          clear hO7 i0 i1 i2 i3
          go_wp2
          exact ⟨⟨j + 1, _, by omega, by go_num, rfl, by rw [unhide HTS, ← List.append_assoc]; exact unhide HO7⟩, by simp [intOf]; omega⟩
        · have e : j = n := by omega
          have hji : ¬ ((j : Nat) : Int) < ((n : Nat) : Int) := by omega
          have HTK : Hid (l.take j = l) := List.take_of_length_le (by have := unhide HN; omega)
          rw [unhide HTK] at HO
          clear e hO
          go_wp2
          go_ret
          exact ⟨_, rfl, by rw [unhide HBD]; exact unhide HO⟩
end Go.Proofs.YtdlbpbglidhlfaaGreatDoor
