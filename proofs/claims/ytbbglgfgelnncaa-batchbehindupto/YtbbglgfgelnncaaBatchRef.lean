/- The document's batches (foremanref04): what Put answers. No statement of the seat is proved here. -/
import Derived.Test.YtbbglgfgelnncaaRecRef5
import Derived.Test.YtbbglgfgelnncaaRowsLow
import Derived.Test.YtbbglgfgelnncaaBatchMath2
namespace Go.Proofs.Ytbbglgfgelnncaa
open Go.RowKit

theorem two_four (n : Nat) : (four n).take 2 = two n := rfl
theorem bputErr_few {rows : List (List UInt8)} (h : rows.length < 1 ∨ 1024 < rows.length) : bputErr rows = 34 := if_pos h
theorem bput_none {rows : List (List UInt8)} {x : Int} (h : bputErr rows = x) (hx : x ≠ 0) : bputOf rows = [] := if_neg (by rw [h]; exact hx)
theorem bputErr_long {rows : List (List UInt8)} (h : 1 ≤ rows.length ∧ rows.length ≤ 1024) {r : List UInt8} (hr : r ∈ rows) (hl : 4096 < r.length) : bputErr rows = 31 := by
  unfold bputErr
  rw [if_neg (by omega), if_neg (fun h => by have := h r hr; omega)]
theorem fresh_nil (w w' : World) (hb : Below w.heap.size w w') : FreshO w w' (.slice none 0 0) [] := ⟨⟨.inl ⟨rfl, rfl⟩, fun k hk => (by cases hk), hb⟩, World.ownsRow_nil _ _ _ _⟩
theorem map_take_succ {rows : List (List UInt8)} {j : Nat} {x : List UInt8} (hx : rows[j]? = some x) : (rows.take (j + 1)).map dat = (rows.take j).map dat ++ [dat x] := by
  obtain ⟨hj, rfl⟩ := List.getElem?_eq_some_iff.1 hx
  rw [List.take_succ_eq_append_getElem hj, List.map_append]; rfl
theorem dats_len {rows : List (List UInt8)} (h : ∀ r ∈ rows, r.length ≤ 4096) : (puts (rows.map dat)).length ≤ 4105 * rows.length := by
  induction rows with
  | nil => simp [puts]
  | cons r rows ih =>
    have h1 := h r (List.mem_cons_self ..)
    have h2 := ih fun r' hr' => h r' (List.mem_cons_of_mem _ hr')
    rw [List.map_cons, puts_cons, List.length_append, put_len, List.length_cons]
    show 9 + r.length + _ ≤ _
    omega

/-- The first two of four bytes. -/
theorem slice_two {w : World} {a : Option Addr} {c n : Nat} (hb : Bytes w (.slice a (four n).length c) (four n)) : ∃ sa sc, Bytes w (.slice sa 2 sc) (two n) ∧ (∀ W : World, (Instr.slice 23 (.slice a (four n).length c) none (some (.int .i64 2)) none).run Try.prog W = .ok (.slice sa 2 sc) W) ∧ (∀ W : World, (Instr.sliceAt 23 (.slice a (four n).length c) none (some (.int .i64 2)) none).run Try.prog W = .ok (.slice sa 2 sc) W) := by
  obtain ⟨sa, sc, h1, h2, h3⟩ := slice_to (h := 2) hb (by show 2 ≤ 4; omega)
  exact ⟨sa, sc, h1, h2, h3⟩

set_option maxRecDepth 100000 in
set_option maxHeartbeats 4000000 in
theorem refBPut_any (u : Value) (rows : List (List UInt8)) (w : World) (h : RowsAt w u rows) (hl : ∀ r ∈ rows, rows.length ≤ 1024 → r.length ≤ 1048576) : Calls Try.prog 12 #[u] w fun e w' => ∃ v, e = .returned (.tuple #[v, .int .i64 (bputErr rows)]) ∧ FreshO w w' v (bputOf rows) := by
  obtain ⟨a, c, rfl, _⟩ := h.form
  obtain ⟨n, hn⟩ : ∃ n, n = rows.length := ⟨_, rfl⟩
  rw [← hn] at h ⊢
  by_cases hf : n < 1 ∨ 1024 < n
  · have e1 := bputErr_few (rows := rows) (by omega)
    rw [e1, bput_none e1 (by decide)]
    have hcase : ((n : Int) < 1) ∨ (¬ (n : Int) < 1 ∧ (n : Int) > 1024) := by omega
    clear hf h hl hn e1
    rcases hcase with g1 | ⟨g1, g2⟩
    all_goals go_enter Try.func12, Try.ntmps12
    all_goals go_wp2_with fail
    all_goals go_ret2
    all_goals exact ⟨_, rfl, fresh_nil _ _ (Below.refl _ w)⟩
  · have g1 : ¬ (n : Int) < 1 := by omega
    have g2 : ¬ (n : Int) > 1024 := by omega
    have hn1 : 1 ≤ n ∧ n ≤ 1024 := by omega
    clear hf
    obtain ⟨ti, hti, hz0, hz1, hz2⟩ := infoByte
    have HH := hide h
    have HN := hide hn
    have HL := hide hl
    clear h hn hl
    go_enter Try.func12, Try.ntmps12
    go_wp2_with fail
    go_loopw [4, 5] (fun v i W => ∃ j : Nat, j ≤ n ∧ i = .int .i64 j ∧ (∀ r ∈ rows.take j, r.length ≤ 4096) ∧ Own w v (puts ((rows.take j).map dat)) W) (fun _ i _ => n - (intOf i).toNat)
    case atStart => exact ⟨0, Nat.zero_le _, rfl, fun r hr => (by simp at hr), Own.start w⟩
    case round =>
      obtain ⟨j, hj, rfl, hrt, hO⟩ := hrel
      have HRT := hide hrt
      have HO := hide hO
      clear hrt hO
      by_cases hlt : j < n
      · obtain ⟨x, hx⟩ := some_get (xs := rows) (j := j) (by have := unhide HN; omega)
        obtain ⟨b1, o1, v1, e1, x1, x3⟩ := ((unhide HH).later (unhide HO).bb).at hx
        subst e1
        obtain ⟨d1, k1, ed1, _⟩ := x3.form
        subst ed1
        have i1 : (j : Int) < (n : Int) := by omega
        have HXL := hide (unhide HL x (List.mem_of_getElem? hx) (by have := unhide HN; omega))
        have HMS := hide (map_take_succ hx)
        have HX := hide hx
        have X3 := hide x3
        clear x3 hx
        obtain ⟨nx, hnx⟩ : ∃ nx, nx = x.length := ⟨_, rfl⟩
        rw [← hnx] at x1 X3 HXL
        have HNX := hide hnx
        clear hnx
        go_wp2_with fail
        refine (refPut_any (dat x) d1 nx k1 _ (unhide X3) (unhide HXL)).mono ?_
        rintro e w2 ⟨v2, rfl, hF⟩
        have HO2 := hide ((unhide HO).later hF.1.2.2)
        have HB2 := hide hF.1.1
        clear hF HO
        by_cases h4 : x.length ≤ 4096
        · have he : putErr (dat x) = 0 := putErr_zero.2 (dat_right h4)
          have HPO : Hid (putOf (dat x) = (dat x).put) := if_pos he
          rw [he]
          have HLEN : Hid ((puts ((rows.take j).map dat)).length + (dat x).put.length ≤ 140737488355328) := by
            have h1 := dats_len (unhide HRT)
            have h2 : (rows.take j).length ≤ 1024 := by rw [List.length_take]; have := unhide HN; omega
            rw [put_len]
            show _ + (9 + x.length) ≤ _
            omega
          go_wp2_with (at_builtin; refine wpList_append_bytes _ rfl _ _ 23 rfl 5 ti (.int .u8 0) Try.underlying23 hti hz0 hz1 hz2 rfl _ _ rfl (unhide HO2).own _ _ rfl (unhide HB2) (by rw [unhide HPO]; exact unhide HLEN) ?_)
          rintro v8 w8 r1 r2 r3
          have HO4 : Hid (Own w v8 (puts ((rows.take (j + 1)).map dat)) w8) := by
            have h := (unhide HO2).grown (cs := puts ((rows.take j).map dat) ++ putOf (dat x)) (by simpa using r1) r2 r3
            rw [unhide HPO, ← puts_snoc, ← unhide HMS] at h
            exact h
          clear r1 r2 r3 HO2 HB2
          go_wp2_with fail
          refine ⟨⟨j + 1, by omega, by go_num, fun r hr => ?_, unhide HO4⟩, by simp [intOf]; omega⟩
          obtain ⟨hj2, hxe⟩ := List.getElem?_eq_some_iff.1 (unhide HX)
          rw [List.take_succ_eq_append_getElem hj2, List.mem_append, List.mem_singleton, hxe] at hr
          rcases hr with hr | rfl
          · exact unhide HRT r hr
          · exact h4
        · have he : putErr (dat x) = 31 := by
            unfold putErr
            rw [if_neg (by show ¬ ((1 : UInt8).toNat < 1 ∨ 2 < (1 : UInt8).toNat); decide), if_pos (by show 4096 < x.length; omega)]
          have e1 := bputErr_long (rows := rows) (by rw [← unhide HN]; exact hn1) (List.mem_of_getElem? (unhide HX)) (by omega : 4096 < x.length)
          have HE1 := hide e1
          have HE2 := hide (bput_none e1 (by decide))
          clear e1
          rw [he]
          go_wp2_with fail
          go_ret2
          exact ⟨_, by rw [unhide HE1]; rfl, by rw [unhide HE2]; exact fresh_nil _ _ (unhide HO2).bb⟩
      · have ej : n = j := by omega
        subst ej
        have HTK : Hid (rows.take n = rows) := List.take_of_length_le (by rw [unhide HN]; exact Nat.le_refl _)
        rw [unhide HTK] at HRT HO
        have hok : okRows rows := ⟨by rw [← unhide HN]; exact hn1, unhide HRT⟩
        have HE : Hid (bputErr rows = 0) := bputErr_zero.2 hok
        have HBO : Hid (bputOf rows = puts (rows.map dat) ++ (commit n).put) := by
          unfold bputOf
          rw [if_pos (unhide HE)]
          unfold bput recsOf
          rw [puts_snoc, ← unhide HN]
          rfl
        have HLEN : Hid ((puts (rows.map dat)).length + (commit n).put.length ≤ 140737488355328) := by
          have h1 := dats_len (unhide HRT)
          have h2 := unhide HN
          rw [put_len]
          show _ + (9 + 2) ≤ _
          omega
        clear hok
        go_wp2_with fail
        refine (refFour_any n (by omega) _).mono ?_
        rintro e w2 ⟨r2, rfl, hF⟩
        have HO2 := hide ((unhide HO).later hF.1.2.2)
        obtain ⟨fa, fc, ef, _⟩ := hF.1.1.form
        subst ef
        obtain ⟨sa, sc, BS, q, q'⟩ := slice_two hF.1.1
        have HBS := hide BS
        clear hF HO BS
        go_wp2_with fail
        refine (refPut_any (commit n) sa 2 sc _ (unhide HBS) (by omega)).mono ?_
        rintro e w3 ⟨v3, rfl, hF⟩
        have HO3 := hide ((unhide HO2).later hF.1.2.2)
        have HB3 := hide hF.1.1
        have he : putErr (commit n) = 0 := putErr_zero.2 (commit_right n)
        have HPO : Hid (putOf (commit n) = (commit n).put) := if_pos he
        rw [he]
        clear hF HO2 he
        go_wp2_with (at_builtin; refine wpList_append_bytes _ rfl _ _ 23 rfl 5 ti (.int .u8 0) Try.underlying23 hti hz0 hz1 hz2 rfl _ _ rfl (unhide HO3).own _ _ rfl (unhide HB3) (by rw [unhide HPO]; exact unhide HLEN) ?_)
        rintro v8 w8 r1 r2 r3
        have HO4 : Hid (Own w v8 (bputOf rows) w8) := by
          have h := (unhide HO3).grown (cs := puts (rows.map dat) ++ putOf (commit n)) (by simpa using r1) r2 r3
          rw [unhide HPO, ← unhide HBO] at h
          exact h
        clear r1 r2 r3 HO3 HB3
        go_wp2_with fail
        go_ret2
        exact ⟨_, by rw [unhide HE]; rfl, (unhide HO4).fresh⟩
end Go.Proofs.Ytbbglgfgelnncaa
