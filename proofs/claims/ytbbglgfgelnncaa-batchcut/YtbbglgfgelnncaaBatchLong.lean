/- BatchLong, walked over BatchOk. -/
import Derived.Test.YtbbglgfgelnncaaBatchTells
import Derived.Test.YtbbglgfgelnncaaGenHeads
import Derived.Test.YtbbglgfgelnncaaGenCopy
namespace Go.Proofs.Ytbbglgfgelnncaa
open Go.RowKit

theorem bytes_one_cell' {w : World} {u : Value} {x : List UInt8} (h : Bytes w u x) : u.oneCell' = true := by
  obtain ⟨a, c, rfl, _⟩ := h.form
  rfl
theorem dats_len_eq (rows : List (List UInt8)) : (puts (rows.map dat)).length = 9 * rows.length + total rows := by
  induction rows with
  | nil => simp [puts, total]
  | cons r rows ih =>
    rw [List.map_cons, puts_cons, List.length_append, put_len, List.length_cons, ih]
    show 9 + r.length + _ = 9 * (rows.length + 1) + (r.length + total rows)
    omega
theorem bput_len (rows : List (List UInt8)) : (bput rows).length = 9 * rows.length + total rows + 11 := by
  unfold bput recsOf
  rw [puts_snoc, List.length_append, put_len, dats_len_eq]
  rfl
/-- Rows as long, of noughts. -/
def blank (rows : List (List UInt8)) : List (List UInt8) := rows.map fun r => List.replicate r.length 0
theorem blank_total (rows : List (List UInt8)) : total (blank rows) = total rows := by
  induction rows with
  | nil => rfl
  | cons r rows ih =>
    show (List.replicate r.length (0 : UInt8)).length + total (blank rows) = r.length + total rows
    rw [List.length_replicate, ih]
theorem blank_len (rows : List (List UInt8)) : (blank rows).length = rows.length := by simp [blank]
theorem blank_succ {rows : List (List UInt8)} {j : Nat} {x : List UInt8} (hx : rows[j]? = some x) : blank (rows.take (j + 1)) = blank (rows.take j) ++ [List.replicate x.length 0] := by
  obtain ⟨hj, rfl⟩ := List.getElem?_eq_some_iff.1 hx
  rw [List.take_succ_eq_append_getElem hj]
  unfold blank
  rw [List.map_append]
  rfl
theorem ok_small {rows : List (List UInt8)} (h1 : 1 ≤ rows.length) (h2 : rows.length ≤ 1024) (h3 : total rows ≤ 4096) : okRows rows := ⟨⟨h1, h2⟩, fun _ hr => Nat.le_trans (total_mem hr) h3⟩
theorem small_most {rows : List (List UInt8)} (h3 : total rows ≤ 4096) : ∀ r ∈ rows, rows.length ≤ 1024 → r.length ≤ 1048576 := fun r hr _ => by have := total_mem hr; omega
theorem total_one (r : List UInt8) : total [r] = r.length := by simp [total]

section
variable (hc : BatchOk) (ua a1 : Option Addr) (n0 uc n1 c1 : Nat) (rows : List (List UInt8)) (w : World)
include hc

set_option maxRecDepth 100000 in
set_option maxHeartbeats 8000000 in
theorem batchLong_long (hR : RowsAt w (.slice ua n0 uc) rows) (hn : rows.length = n0) (hm : ∀ r ∈ rows, r.length ≤ 140737488355328) (hl : n0 = 0 ∨ n0 > 40 ∨ total rows > 3000 ∨ n1 > 200) : Calls Try.prog 7 #[.slice ua n0 uc, .slice a1 n1 c1] w fun e w' => e = .returned (.bool true) ∧ Below w.heap.size w w' := by
  have HC := hide hc
  clear hc
  by_cases h0 : n0 = 0 ∨ n0 > 40
  · have hcase : (n0 : Int) = 0 ∨ (¬ (n0 : Int) = 0 ∧ (n0 : Int) > 40) := by omega
    clear hl hR hn h0 hm
    rcases hcase with g0 | ⟨g0, g1⟩
    all_goals go_enter Try.func7, Try.ntmps7
    all_goals go_wp2_with fail
    all_goals refine (awake_any (unhide HC) _).mono ?_
    all_goals rintro e w2 ⟨rfl, hb⟩
    all_goals have HB := hide hb
    all_goals clear hb
    all_goals go_wp2_with fail
    all_goals go_ret
    all_goals exact ⟨rfl, unhide HB⟩
  · have g0 : ¬ (n0 : Int) = 0 := by omega
    have g1 : ¬ (n0 : Int) > 40 := by omega
    have HN : Hid (rows.length ≤ 140737488355328) := by show _ ≤ _; omega
    have hcase : ((total rows : Nat) : Int) > 3000 ∨ (¬ ((total rows : Nat) : Int) > 3000 ∧ (n1 : Int) > 200) := by omega
    have HLB := hide (low_bytes (.slice ua n0 uc) rows w hR (unhide HN))
    rw [bytes_few hm (by omega)] at HLB
    clear hl hR hn h0 hm
    generalize total rows = T at *
    rcases hcase with g2 | ⟨g2, g3⟩
    all_goals go_enter Try.func7, Try.ntmps7
    all_goals go_wp2_with fail
    all_goals refine (unhide HLB).mono ?_
    all_goals rintro e w' ⟨rfl, hw'⟩
    all_goals rw [hw']
    all_goals clear hw' HLB
    all_goals go_wp2_with fail
    all_goals refine (awake_any (unhide HC) _).mono ?_
    all_goals rintro e w2 ⟨rfl, hb⟩
    all_goals have HB := hide hb
    all_goals clear hb
    all_goals go_wp2_with fail
    all_goals go_ret
    all_goals exact ⟨rfl, unhide HB⟩

set_option maxRecDepth 100000 in
set_option maxHeartbeats 8000000 in
theorem batchLong_short (more : List UInt8) (hR : RowsAt w (.slice ua n0 uc) rows) (hn : rows.length = n0) (h1 : Bytes w (.slice a1 n1 c1) more) (l0 : 1 ≤ n0) (l1 : n0 ≤ 40) (lT : total rows ≤ 3000) (l2 : n1 ≤ 200) : Calls Try.prog 7 #[.slice ua n0 uc, .slice a1 n1 c1] w fun e w' => e = .returned (.bool true) ∧ Below w.heap.size w w' := by
  have HC := hide hc
  have hml := (bytes_len h1).1
  have g0 : ¬ (n0 : Int) = 0 := by omega
  have g0' : ((n0 : Int) == 0) = false := beq_eq_false_iff_ne.2 g0
  have g1 : ¬ (n0 : Int) > 40 := by omega
  have g2 : ¬ ((total rows : Nat) : Int) > 3000 := by omega
  have g3 : ¬ (n1 : Int) > 200 := by omega
  have HN : Hid (rows.length ≤ 140737488355328) := by show _ ≤ _; omega
  have HLB := hide (low_bytes (.slice ua n0 uc) rows w hR (unhide HN))
  rw [wrap_in (by omega)] at HLB
  have E1 : bputErr rows = 0 := bputErr_zero.2 (ok_small (by omega) (by omega) (by omega))
  have O1 : bputOf rows = bput rows := if_pos E1
  have E2 : bputErr (rows ++ [more]) = 0 := bputErr_zero.2 (ok_small (by rw [List.length_append]; omega) (by rw [List.length_append, List.length_singleton]; omega) (by rw [total_append, total_one]; omega))
  have O2 : bputOf (rows ++ [more]) = bput (rows ++ [more]) := if_pos E2
  have E3 : bputErr (blank rows) = 0 := bputErr_zero.2 (ok_small (by rw [blank_len]; omega) (by rw [blank_len]; omega) (by rw [blank_total]; omega))
  have O3 : bputOf (blank rows) = bput (blank rows) := if_pos E3
  obtain ⟨N, hN⟩ : ∃ N, N = 9 * n0 + total rows + 11 := ⟨_, rfl⟩
  have P1 : Hid (bputErr rows = 0 ∧ bputOf rows = bput rows ∧ (bputOf rows).length = N) := ⟨E1, O1, by rw [O1, bput_len, hn, hN]⟩
  have P2 : Hid (bputErr (rows ++ [more]) = 0 ∧ (bputOf (rows ++ [more])).length = N + 9 + n1) := ⟨E2, by rw [O2, bput_len, List.length_append, List.length_singleton, total_append, total_one, hn, hN, hml]; omega⟩
  have P3 : Hid (bputErr (blank rows) = 0 ∧ (bputOf (blank rows)).length = N) := ⟨E3, by rw [O3, bput_len, blank_len, blank_total, hn, hN]⟩
  have hNb : N ≤ 4000 := by omega
  have M1 : Hid (∀ r ∈ rows, rows.length ≤ 1024 → r.length ≤ 1048576) := small_most (by omega)
  have M2 : Hid (∀ r ∈ rows ++ [more], (rows ++ [more]).length ≤ 1024 → r.length ≤ 1048576) := small_most (by rw [total_append, total_one]; omega)
  have M3 : Hid (∀ r ∈ blank rows, (blank rows).length ≤ 1024 → r.length ≤ 1048576) := small_most (by rw [blank_total]; omega)
  have M4 : Hid (∀ r ∈ rows, r.length ≤ 3000) := fun r hr => by have := total_mem hr; omega
  have HR := hide hR
  have H1 := hide h1
  have HNN := hide hn
  clear hc hR h1 hn hml E1 O1 E2 O2 E3 O3 hN lT
  generalize total rows = T at *
  go_enter Try.func7, Try.ntmps7
  go_wp2_with fail
  refine (unhide HLB).mono ?_
  rintro e w' ⟨rfl, hw'⟩
  rw [hw']
  clear hw' HLB
  go_wp2_with fail
  refine ((unhide HC).put _ rows _ (unhide HR) (unhide M1)).mono ?_
  rintro e w2 ⟨v2, rfl, hB2, hb2, _⟩
  obtain ⟨va2, vc2, ev2, _⟩ := hB2.form
  rw [(unhide P1).2.2] at ev2
  subst ev2
  rw [(unhide P1).1]
  have HB2 := hide hb2
  clear hb2 hB2
  go_wp2_with fail
  refine ((unhide HC).long _ rows _ ((unhide HR).later (unhide HB2)) (unhide M1)).mono ?_
  rintro e w3 ⟨rfl, hb3⟩
  rw [(unhide P1).1, (unhide P1).2.2]
  have HB3 : Hid (Below w.heap.size w w3) := (unhide HB2).trans (hb3.mono (unhide HB2).size)
  clear hb3 HB2
  have HHO := hide (HeadsO.lit Bytes 23 w3)
  have HR3 := hide ((unhide HR).later (unhide HB3))
  have H13 := hide ((unhide H1).later (unhide HB3))
  have HX3 : Hid (([] : List (List UInt8)).length + rows.length ≤ 4194304) := by show _ ≤ _; rw [List.length_nil, unhide HNN]; omega
  go_wp2_with (at_builtin; refine wpList_append_heads rfl _ _ 22 23 rfl Try.underlying22 infoRow0 (fun u y h => bytes_one_cell' h) _ [] rfl (unhide HHO) ua n0 uc rows rfl (unhide HR3) (unhide HX3) ?_)
  rintro v4 w4 hO4
  have HO4 := hide (hO4.later ((Below.refl _ w4).alloc (Nat.le_refl _) (.cells #[.slice a1 n1 c1] 23)))
  have HY4 := hide (ListAt.one (E := Bytes) (heap_alloc_new w4 (.cells #[.slice a1 n1 c1] 23)) (unhide H13))
  have HX4 : Hid (([] ++ rows).length + [more].length ≤ 4194304) := by show _ ≤ _; rw [List.nil_append, unhide HNN, List.length_singleton]; omega
  clear hO4 HHO HX3
  go_wp2_with (at_builtin; refine wpList_append_headsW rfl _ _ 22 23 rfl Try.underlying22 infoRow0 (fun u y h => bytes_one_cell' h) _ ([] ++ rows) rfl (unhide HO4) _ _ _ [more] rfl (unhide HY4) (unhide HX4) ?_)
  rintro v5 w5 hO5
  have HR5 : Hid (RowsAt w5 v5 (rows ++ [more])) := hO5.listAt (fun h hb => Bytes.later h hb)
  have HB5 : Hid (Below w.heap.size w w5) := (unhide HB3).trans (hO5.bb.mono (unhide HB3).size)
  clear hO5 HO4 HY4 HX4 HB3 H13 HR3
  go_wp2_with fail
  refine ((unhide HC).long _ (rows ++ [more]) _ (unhide HR5) (unhide M2)).mono ?_
  rintro e w6 ⟨rfl, hb6⟩
  rw [(unhide P2).1, (unhide P2).2]
  have HB6 : Hid (Below w.heap.size w w6) := (unhide HB5).trans (hb6.mono (unhide HB5).size)
  clear hb6 HR5 HB5
  have HR6 := hide ((unhide HR).later (unhide HB6))
  go_wp2_with fail
  go_loopw [11, 57] (fun v i W => ∃ j : Nat, j ≤ n0 ∧ i = .int .i64 j ∧ OwnRows w6 v (blank (rows.take j)) W) (fun _ i _ => n0 - (intOf i).toNat)
  case atStart => exact ⟨0, Nat.zero_le _, rfl, OwnRows.start w6⟩
  case round =>
    obtain ⟨j, hj, rfl, hO⟩ := hrel
    have HO := hide hO
    clear hO
    by_cases hlt : j < n0
    · obtain ⟨x, hx⟩ := some_get (xs := rows) (j := j) (by have := unhide HNN; omega)
      obtain ⟨b1, o1, v1, e1, x1, x3⟩ := ((unhide HR6).later (unhide HO).bb).at hx
      obtain ⟨d1, k1, ed1, _⟩ := x3.form
      have HBS := hide (blank_succ hx)
      have hxl := unhide M4 x (List.mem_of_getElem? hx)
      obtain ⟨nx, hnx⟩ : ∃ nx, nx = x.length := ⟨_, rfl⟩
      rw [← hnx] at ed1 hxl HBS
      subst ed1
      cases e1
      have i1 : (j : Int) < (n0 : Int) := by omega
      obtain ⟨Z, hZ, hmk⟩ := makeBytes nx (by omega)
      have HZ := hide hZ
      clear x3 hx hnx hZ
      have HOM := hide (Own.made wr (unhide HZ) (by omega : nx ≤ 1048576))
      have HOa := hide (((unhide HO).later (unhide HOM).bb).later ((Below.refl _ _).alloc (Nat.le_refl _) (.cells #[.slice (some ⟨wr.heap.size, 0, none⟩) nx nx] 23)))
      have HOr := hide ((((unhide HOM).alloc (.cells #[.slice (some ⟨wr.heap.size, 0, none⟩) nx nx] 23))).lift (unhide HO).bb)
      have HCE : Hid (((wr.alloc (.cells Z 5)).alloc (.cells #[.slice (some ⟨wr.heap.size, 0, none⟩) nx nx] 23)).cell? ⟨wr.heap.size + 1, 0, none⟩ = some (.slice (some ⟨wr.heap.size, 0, none⟩) nx nx)) := by
        have h := heap_alloc_new (wr.alloc (.cells Z 5)) (.cells #[.slice (some ⟨wr.heap.size, 0, none⟩) nx nx] 23)
        rw [World.size_alloc] at h
        exact cell_of_row _ _ 0 _ _ _ h
      have HLL : Hid ((blank (rows.take j)).length ≤ 1048576) := by show _ ≤ _; rw [blank_len, List.length_take]; omega
      clear HO HOM
      go_wp2_with (at_builtin; refine wpList_append_ownrow rfl _ _ rfl _ (blank (rows.take j)) (List.replicate nx 0) _ (wr.heap.size + 1) 1 rfl (unhide HOa) rfl (unhide HCE) (unhide HOr) (unhide HLL) ?_)
      rintro v9 w9 hO9
      rw [← unhide HBS] at hO9
      have HO9 := hide hO9
      clear hO9 HOa HOr HCE
      go_wp2_with fail
      exact ⟨⟨j + 1, by omega, by go_num, unhide HO9⟩, by simp [intOf]; omega⟩
    · have ej : n0 = j := by omega
      subst ej
      have HTK : Hid (rows.take n0 = rows) := List.take_of_length_le (by rw [unhide HNN]; exact Nat.le_refl _)
      rw [unhide HTK] at HO
      have HB7 : Hid (Below w.heap.size w wr) := (unhide HB6).trans ((unhide HO).bb.mono (unhide HB6).size)
      have HRB := hide (unhide HO).rowsAt
      clear HO HB6 HR6
      go_wp2_with fail
      refine ((unhide HC).long _ (blank rows) _ (unhide HRB) (unhide M3)).mono ?_
      rintro e w8 ⟨rfl, hb8⟩
      rw [(unhide P3).1, (unhide P3).2]
      have HB8 : Hid (Below w.heap.size w w8) := (unhide HB7).trans (hb8.mono (unhide HB7).size)
      clear hb8 HB7 HRB
      go_wp2_with fail
      refine (awake_any (unhide HC) _).mono ?_
      rintro e w10 ⟨rfl, hb⟩
      have HB10 := hide ((unhide HB8).trans (hb.mono (unhide HB8).size))
      clear hb HB8
      go_wp2_with fail
      go_ret
      exact ⟨rfl, unhide HB10⟩

theorem batchLong_any (more : List UInt8) (hR : RowsAt w (.slice ua n0 uc) rows) (hn : rows.length = n0) (hm : ∀ r ∈ rows, r.length ≤ 140737488355328) (h1 : Bytes w (.slice a1 n1 c1) more) : Calls Try.prog 7 #[.slice ua n0 uc, .slice a1 n1 c1] w fun e w' => e = .returned (.bool true) ∧ Below w.heap.size w w' := by
  by_cases hl : n0 = 0 ∨ n0 > 40 ∨ total rows > 3000 ∨ n1 > 200
  · exact batchLong_long hc ua a1 n0 uc n1 c1 rows w hR hn hm hl
  · exact batchLong_short hc ua a1 n0 uc n1 c1 rows w more hR hn h1 (by omega) (by omega) (by omega) (by omega)
end
end Go.Proofs.Ytbbglgfgelnncaa
