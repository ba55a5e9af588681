/- RecAny, walked over RecOk. -/
import Derived.Test.YtfaoailiamcchaaRecWritten
namespace Go.Proofs.Ytfaoailiamcchaa
open Go.RowKit

/-- l[:h]: its value, whatever the world, and its records. -/
theorem slice_recs {w : World} {a : Option Addr} {n c h : Nat} {rs : List RecD} (hb : RecsAt w (.slice a n c) rs) (hl : rs.length = n) (h1 : h ≤ n) : ∃ sa sc, RecsAt w (.slice sa h sc) (rs.take h) ∧ (∀ W : World, (Instr.slice 34 (.slice a n c) none (some (.int .i64 (h : Nat))) none).run Try.prog W = .ok (.slice sa h sc) W) ∧ (∀ W : World, (Instr.sliceAt 34 (.slice a n c) none (some (.int .i64 (h : Nat))) none).run Try.prog W = .ok (.slice sa h sc) W) := by
  have hnc : n ≤ c := by obtain ⟨_, _, hv, hc⟩ := hb.form; simp only [Value.slice.injEq] at hv; omega
  have hu : Try.prog.underlying 34 = some (.slice 24) := Try.underlying34
  have hel : Try.prog.elem 34 = 24 := by unfold Program.elem; rw [hu]
  have hu' : Try.prog.underlying 34 = some (.slice (Try.prog.elem 34)) := by rw [hel]; exact hu
  have hr : ∀ W : World, (Instr.slice 34 (.slice a n c) none (some (.int .i64 (h : Nat))) none).run Try.prog W = .ok (.slice (if c = 0 then a else a.map (·.add 0)) h c) W := fun W => by
    rw [run_slice_h W 34 a n c hu' .i64 h (by omega) (by omega), hel]
    have hsz : (sizeOf 24).run Try.prog W = .ok 2 W := by simp [sizeOf]; rfl
    rw [hsz]
    simp only [Result.andThen, sliced, Int.toNat_natCast, Nat.zero_mul, Nat.sub_zero]
  refine ⟨_, _, ?_, hr, fun W => by rw [run_sliceAt_slice W _ _ _ _ _ hu']; exact hr W⟩
  have htl : (rs.take h).length = h := by rw [List.length_take]; omega
  rcases hb with ⟨_, hbn⟩ | ⟨b, o, c', hv, hl1, hbb⟩
  · have e2 : h = 0 := by rw [hbn, List.length_nil] at hl; omega
    subst e2
    exact .inl ⟨⟨_, _, rfl⟩, by simp⟩
  · simp only [Value.slice.injEq] at hv
    obtain ⟨rfl, _, rfl⟩ := hv
    refine .inr ⟨b, o, c, ?_, by omega, fun i hi => ?_⟩
    · rw [htl]
      congr 1
      split
      · rfl
      · simp [Addr.add_mid]
    · have e : (rs.take h).getD i ⟨0, []⟩ = rs.getD i ⟨0, []⟩ := by rw [List.getD_eq_getElem?_getD, List.getD_eq_getElem?_getD, List.getElem?_take, if_pos (by omega)]
      rw [e]
      exact hbb i (by omega)

theorem IntsO.form {w W : World} {v : Value} {ns : List Nat} (h : IntsO w v ns W) : ∃ a c, v = .slice a ns.length c := by
  rcases h.own.2 with ⟨e, h0⟩ | ⟨g, cap, cur, e, _⟩
  · exact ⟨none, 0, by rw [e, h0]⟩
  · exact ⟨_, _, e⟩
section
variable (hc : RecOk) (a1 a2 : Option Addr) (n1 c1 n2 c2 : Nat) (w : World)
include hc

set_option maxRecDepth 100000 in
set_option maxHeartbeats 8000000 in
theorem recAny_long (hl : 5000 < n1 ∨ 5000 < n2) : Calls Try.prog 7 #[.slice a1 n1 c1, .slice a2 n2 c2] w fun e w' => e = .returned (.bool true) ∧ Below w.heap.size w w' := by
  have HC := hide hc
  clear hc
  by_cases h9 : 5000 < n1
  · have g1 : (n1 : Int) > 5000 := by omega
    clear hl
    go_enter Try.func7, Try.ntmps7
    go_wp2_with fail
    refine (awake_any (unhide HC) _).mono ?_
    rintro e w2 ⟨rfl, hb⟩
    have HB := hide hb
    clear hb
    go_wp2_with fail
    go_ret
    exact ⟨rfl, unhide HB⟩
  · have g1 : ¬ (n1 : Int) > 5000 := by omega
    have g2 : (n2 : Int) > 5000 := by omega
    clear hl
    go_enter Try.func7, Try.ntmps7
    go_wp2_with fail
    refine (awake_any (unhide HC) _).mono ?_
    rintro e w2 ⟨rfl, hb⟩
    have HB := hide hb
    clear hb
    go_wp2_with fail
    go_ret
    exact ⟨rfl, unhide HB⟩

set_option maxRecDepth 100000 in
set_option maxHeartbeats 16000000 in
theorem recAny_main (b other : List UInt8) (h1 : Bytes w (.slice a1 n1 c1) b) (h2 : Bytes w (.slice a2 n2 c2) other) (hl1 : n1 ≤ 5000) (hl2 : n2 ≤ 5000) : Calls Try.prog 7 #[.slice a1 n1 c1, .slice a2 n2 c2] w fun e w' => e = .returned (.bool true) ∧ Below w.heap.size w w' := by
  have HC := hide hc
  have g1 : ¬ (n1 : Int) > 5000 := by omega
  have g2 : ¬ (n2 : Int) > 5000 := by omega
  have HL1 := hide (bytes_len h1).1
  have HL2 := hide (bytes_len h2).1
  have HK1 := hide (((Kp.start w).addB h1).addB h2)
  obtain ⟨ti, hti, hz0, hz1, hz2⟩ := infoByte
  clear hc h1 h2
  go_enter Try.func7, Try.ntmps7
  go_wp2_with fail
  refine ((unhide HC).all a1 n1 c1 b _ ((unhide HK1).byt (.slice a1 n1 c1, b) (List.mem_cons_of_mem _ (List.mem_cons_self ..))) (by omega)).mono ?_
  rintro e w2 ⟨l2, rs, m, x, rfl, hA, hR, hb⟩
  have HK2 := hide ((unhide HK1).later hb)
  have HA := hide hA
  have HR := hide hR
  obtain ⟨la, lc, el, _⟩ := hR.form
  subst el
  have HRT := hide hA.right
  have HPU := hide hA.puts
  have HDN := hide hA.done
  have HFEW := hide hA.few
  clear hA hR hb HK1
  go_wp2_with fail
  refine (written_any (unhide HC) _ rs _ (unhide HR) (by have := unhide HFEW; have := unhide HL1; omega) (fun i hi => ?_) ?_).mono ?_
  · have := (unhide HRT _ (mem_getD hi)).2
    omega
  · rw [(unhide HPU).1, List.length_take]
    have := unhide HL1
    omega
  rintro e w3 hW
  rcases hW with ⟨_, v1, v2, rfl, hT⟩ | ⟨⟨r', hr', hn⟩, _⟩
  case inr => exact absurd (unhide HRT r' hr') hn
  have HK3 := hide (((unhide HK2).later hT.o1.bb).addB (bytes_of_owns hT.o1.own))
  have HR3 := hide ((unhide HR).later hT.o1.bb)
  obtain ⟨ea, ec, ee⟩ := hT.o2.form
  subst ee
  obtain ⟨pa, pc, ep, _⟩ := (bytes_of_owns hT.o1.own).form
  subst ep
  rw [ends_len]
  clear hT HK2 HR
  have hm := (unhide HPU).2
  have hmn : m ≤ n1 := by have := unhide HL1; omega
  have hm0 : ¬ ((m : Nat) : Int) < 0 := by omega
  have hm1 : ¬ ((m : Nat) : Int) > (n1 : Int) := by omega
  obtain ⟨sa, sc, BS, q, q'⟩ := slice_to (h := m) ((unhide HK3).byt (.slice a1 n1 c1, b) (List.mem_cons_of_mem _ (List.mem_cons_of_mem _ (List.mem_cons_self ..)))) hmn
  have HBS := hide BS
  have HEQ : Hid (decide (puts rs = b.take m) = true) := decide_eq_true (unhide HPU).1
  clear BS hm
  go_wp2_with fail
  refine (low_same _ _ (puts rs) (b.take m) _ ((unhide HK3).byt (.slice pa (puts rs).length pc, puts rs) (List.mem_cons_self ..)) (unhide HBS)).mono ?_
  rintro e w4 ⟨rfl, hw4⟩
  rw [unhide HEQ]
  have HK4 := hide ((unhide HK3).eq hw4)
  have HBS4 : Hid (Bytes w4 (.slice sa m sc) (b.take m)) := by rw [hw4]; exact unhide HBS
  have HR4 : Hid (RecsAt w4 (.slice la rs.length lc) rs) := by rw [hw4]; exact unhide HR3
  clear HK3 HBS HR3 hw4
  have hcase : (x = 0 ∧ m = n1) ∨ ((x == 0) = false ∧ ((m : Int) == (n1 : Int)) = false) := by
    have h := unhide HDN
    rw [unhide HL1] at h
    by_cases e : x = 0
    · exact .inl ⟨e, h.1 e⟩
    · exact .inr ⟨beq_eq_false_iff_ne.2 e, beq_eq_false_iff_ne.2 fun e' => e (h.2 (by omega))⟩
  have HRX : Hid (rs.length ≤ 5000) := by show _ ≤ _; have := unhide HFEW; have := unhide HL1; omega
  clear HA HDN HFEW
  rcases hcase with ⟨rfl, rfl⟩ | ⟨hx1, hx2⟩
  all_goals go_wp2_with fail
  all_goals refine (low_anew _ (b.take m) _ (unhide HBS4) (by rw [List.length_take]; have := unhide HL1; omega)).mono ?_
  all_goals rintro e w5 ⟨r5, rfl, hF⟩
  all_goals have HK5 := hide ((unhide HK4).later hF.1.2.2)
  all_goals have HO5 := hide (hF.own (Below.refl _ w4))
  all_goals clear hF HBS4
  all_goals go_wp2_with (at_builtin; refine wpList_append_bytes _ rfl _ _ 22 rfl 5 ti (.int .u8 0) Try.underlying22 hti hz0 hz1 hz2 rfl _ (b.take m) rfl (unhide HO5).own _ other rfl ((unhide HK5).byt (.slice a2 n2 c2, other) (List.mem_cons_of_mem _ (List.mem_cons_self ..))) (by rw [List.length_take]; have := unhide HL1; have := unhide HL2; omega) ?_)
  all_goals rintro v6 w6 r1 r2 r3
  all_goals have HO6 : Hid (Own w4 v6 (b.take m ++ other) w6) := (unhide HO5).grown (by simpa using r1) r2 (by simpa using r3)
  all_goals have HK6 := hide ((unhide HK4).later (unhide HO6).bb)
  all_goals have HR6 := hide ((unhide HR4).later (unhide HO6).bb)
  all_goals clear r1 r2 r3 HK4 HR4 HK5 HO5
  all_goals obtain ⟨a6, c6, e6, _⟩ := (bytes_of_owns (unhide HO6).own).form
  all_goals subst e6
  all_goals have HB6 := hide (bytes_of_owns (unhide HO6).own)
  all_goals clear HO6
  all_goals have HLL : Hid ((b.take m ++ other).length ≤ 1048576) := by rw [List.length_append, List.length_take]; have := unhide HL1; have := unhide HL2; show _ ≤ _; omega
  all_goals generalize (b.take m ++ other).length = N6 at *
  all_goals rw [← (unhide HPU).1] at HB6
  all_goals go_wp2_with fail
  all_goals refine ((unhide HC).all a6 N6 c6 (puts rs ++ other) _ (unhide HB6) (unhide HLL)).mono ?_
  all_goals rintro e w7 ⟨l7, rs', m', x', rfl, hA, hR, hb⟩
  all_goals obtain ⟨ts, _, hts, _, _⟩ := AllIs.behind (unhide HRT) hA
  all_goals subst hts
  all_goals have HK7 := hide ((unhide HK6).later hb)
  all_goals have HR7 := hide ((unhide HR6).later hb)
  all_goals obtain ⟨ga, gc, eg, _⟩ := hR.form
  all_goals subst eg
  all_goals obtain ⟨ya, yc, hY, y1, y2⟩ := slice_recs (h := rs.length) hR rfl (by rw [List.length_append]; omega)
  all_goals rw [List.take_left] at hY
  all_goals have HY := hide hY
  all_goals have hge : (((rs ++ ts).length : Nat) : Int) ≥ ((rs.length : Nat) : Int) := by rw [List.length_append]; omega
  all_goals clear hY hR hA hb HK6 HR6 HB6 HLL
  all_goals generalize (rs ++ ts).length = N at *
  all_goals go_wp2_with fail
  all_goals refine (low_sameRecs _ _ rs rs _ (unhide HY) (unhide HR7) (by have := unhide HRX; omega)).mono ?_
  all_goals rintro e w8 ⟨bb, rfl, hiff, hb⟩
  all_goals obtain rfl : bb = true := hiff.2 rfl
  all_goals have HK8 := hide ((unhide HK7).later hb)
  all_goals clear hiff hb HK7 HR7 HY
  all_goals go_wp2_with fail
  all_goals refine (awake_any (unhide HC) _).mono ?_
  all_goals rintro e w9 ⟨rfl, hb⟩
  all_goals have HK9 := hide ((unhide HK8).later hb)
  all_goals clear hb HK8
  all_goals go_wp2_with fail
  all_goals go_ret
  all_goals exact ⟨rfl, (unhide HK9).bb⟩

theorem recAny_any (b other : List UInt8) (h1 : Bytes w (.slice a1 n1 c1) b) (h2 : Bytes w (.slice a2 n2 c2) other) : Calls Try.prog 7 #[.slice a1 n1 c1, .slice a2 n2 c2] w fun e w' => e = .returned (.bool true) ∧ Below w.heap.size w w' := by
  by_cases hl : 5000 < n1 ∨ 5000 < n2
  · exact recAny_long hc a1 a2 n1 c1 n2 c2 w hl
  · exact recAny_main hc a1 a2 n1 c1 n2 c2 w b other h1 h2 (by omega) (by omega)
end
end Go.Proofs.Ytfaoailiamcchaa
