/- BatchMixed, walked over BatchOk. -/
import Derived.Test.YtbbglgfgelnncaaBatchLong
import Derived.Test.YtbbglgfgelnncaaBatchBehind
namespace Go.Proofs.Ytbbglgfgelnncaa
open Go.RowKit

/-- Bytes stay where another block grows. -/
theorem Bytes.past {W W' : World} {u : Value} {bs : List UInt8} {row : Option Nat} (h : Bytes W u bs) (hg : W.grownBy W' row) (hne : bs ≠ [] → ∀ k, u.ownBlock = some k → row ≠ some k) : Bytes W' u bs := by
  rcases h with h | ⟨q, c, rfl, h1, h2, h3⟩
  · exact .inl h
  · refine .inr ⟨q, c, rfl, h1, h2, fun j x hx => ?_⟩
    have hb : bs ≠ [] := fun e => by rw [e] at hx; cases hx
    have hc := h3 j x hx
    have hlt := World.block_lt_of_cell? _ _ hc
    rw [add_block] at hlt
    rw [World.cell?_of_block (w := W) (w' := W') (a := q.add j) (by rw [add_block]; exact hg.block _ hlt (fun e => hne hb _ rfl e.symm))]
    exact hc
/-- Few bytes, or too many rows. -/
theorem behind_most {rows : List (List UInt8)} (hm : ∀ r ∈ rows, r.length ≤ 140737488355328) (h : ¬ wrap64 ((total rows : Nat) : Int) > 500) : ∀ r ∈ rows, rows.length ≤ 1024 → r.length ≤ 500 := fun r hr hl => by
  rw [bytes_few hm (by omega)] at h
  have := total_mem hr
  omega
theorem two_bytes {w : World} {lo hi : UInt8} {t : Nat} (h : two t = [lo, hi]) {g : Nat} {fr : Nat × Nat} {ty : TypeId} (hg : w.heap[g]? = some (.cells #[.int .u8 (lo.toNat : Nat), .int .u8 (hi.toNat : Nat)] ty fr)) : Bytes w (.slice (some ⟨g, 0, none⟩) 2 2) (two t) := by
  rw [h]
  exact bytes_block (bs := [lo, hi]) hg rfl (by show 2 ≤ 1000; omega)
theorem scan_more (behind : List (List UInt8)) : ScanIs (bputOf behind) (if bputErr behind = 0 then [behind] else []) (bputOf behind).length 0 := by
  by_cases h : bputErr behind = 0
  · have ho := bputErr_zero.1 h
    have e : bputOf behind = bput behind := if_pos h
    rw [if_pos h, e]
    have h2 := scan_behind (l := [behind]) (fun r hr => by rw [List.mem_singleton.1 hr]; exact ho) scan_nil
    rw [bputs_one, List.append_nil, Nat.add_zero] at h2
    exact h2
  · have e : bputOf behind = [] := if_neg h
    rw [if_neg h, e]
    exact scan_nil
theorem bputErr_few' {rows : List (List UInt8)} : bputErr rows = 0 ∨ bputErr rows = 34 ∨ bputErr rows = 31 := by
  unfold bputErr
  split
  · exact .inr (.inl rfl)
  · split
    · exact .inl rfl
    · exact .inr (.inr rfl)

section
variable (hc : BatchOk) (ua ub : Option Addr) (n0 uc t n2 vc : Nat) (rows behind : List (List UInt8)) (w : World)
include hc

set_option maxRecDepth 100000 in
set_option maxHeartbeats 8000000 in
theorem batchMixed_long (hR : RowsAt w (.slice ua n0 uc) rows) (hn : rows.length = n0) (hm : ∀ r ∈ rows, r.length ≤ 140737488355328) (hR2 : RowsAt w (.slice ub n2 vc) behind) (hn2 : behind.length = n2) (hx2 : n2 ≤ 140737488355328) (hl : n0 = 0 ∨ n0 > 20 ∨ total rows > 500 ∨ wrap64 ((total behind : Nat) : Int) > 500) : Calls Try.prog 6 #[.slice ua n0 uc, .int .u16 (t : Nat), .slice ub n2 vc] w fun e w' => e = .returned (.bool true) ∧ Below w.heap.size w w' := by
  have HC := hide hc
  clear hc
  by_cases h0 : n0 = 0 ∨ n0 > 20
  · have hcase : (n0 : Int) = 0 ∨ (¬ (n0 : Int) = 0 ∧ (n0 : Int) > 20) := by omega
    clear hl hR hn h0 hm hR2
    rcases hcase with g0 | ⟨g0, g1⟩
    all_goals go_enter Try.func6, Try.ntmps6
    all_goals go_wp2_with fail
    all_goals refine (awake_any (unhide HC) _).mono ?_
    all_goals rintro e w2 ⟨rfl, hb⟩
    all_goals have HB := hide hb
    all_goals clear hb
    all_goals go_wp2_with fail
    all_goals go_ret
    all_goals exact ⟨rfl, unhide HB⟩
  · have g0 : ¬ (n0 : Int) = 0 := by omega
    have g0' : ((n0 : Int) == 0) = false := beq_eq_false_iff_ne.2 g0
    have g1 : ¬ (n0 : Int) > 20 := by omega
    have HLB := hide (low_bytes (.slice ua n0 uc) rows w hR (by omega))
    rw [bytes_few hm (by omega)] at HLB
    by_cases hT : ((total rows : Nat) : Int) > 500
    · clear hl hR hn h0 hm hR2
      generalize total rows = T at *
      go_enter Try.func6, Try.ntmps6
      go_wp2_with fail
      refine (unhide HLB).mono ?_
      rintro e w' ⟨rfl, hw'⟩
      rw [hw']
      clear hw' HLB
      go_wp2_with fail
      refine (awake_any (unhide HC) _).mono ?_
      rintro e w2 ⟨rfl, hb⟩
      have HB := hide hb
      clear hb
      go_wp2_with fail
      go_ret
      exact ⟨rfl, unhide HB⟩
    · have hZ : wrap64 ((total behind : Nat) : Int) > 500 := by omega
      have HLB2 := hide (low_bytes (.slice ub n2 vc) behind w hR2 (by omega))
      clear hl hR hn h0 hm hR2
      generalize total rows = T at *
      generalize wrap64 ((total behind : Nat) : Int) = Z at *
      go_enter Try.func6, Try.ntmps6
      go_wp2_with fail
      refine (unhide HLB).mono ?_
      rintro e w' ⟨rfl, hw'⟩
      rw [hw']
      clear hw' HLB
      go_wp2_with fail
      refine (unhide HLB2).mono ?_
      rintro e w' ⟨rfl, hw'⟩
      rw [hw']
      clear hw' HLB2
      go_wp2_with fail
      refine (awake_any (unhide HC) _).mono ?_
      rintro e w2 ⟨rfl, hb⟩
      have HB := hide hb
      clear hb
      go_wp2_with fail
      go_ret
      exact ⟨rfl, unhide HB⟩

set_option maxRecDepth 100000 in
set_option maxHeartbeats 8000000 in
theorem batchMixed_short (ht : t < 65536) (hR : RowsAt w (.slice ua n0 uc) rows) (hn : rows.length = n0) (hR2 : RowsAt w (.slice ub n2 vc) behind) (hn2 : behind.length = n2) (hx2 : n2 ≤ 140737488355328) (hm2 : ∀ r ∈ behind, r.length ≤ 140737488355328) (l0 : 1 ≤ n0) (l1 : n0 ≤ 20) (lT : total rows ≤ 500) (lZ : ¬ wrap64 ((total behind : Nat) : Int) > 500) : Calls Try.prog 6 #[.slice ua n0 uc, .int .u16 (t : Nat), .slice ub n2 vc] w fun e w' => e = .returned (.bool true) ∧ Below w.heap.size w w' := by
  have HC := hide hc
  obtain ⟨ti, hti, hz0, hz1, hz2⟩ := infoByte
  have g0 : ¬ (n0 : Int) = 0 := by omega
  have g0' : ((n0 : Int) == 0) = false := beq_eq_false_iff_ne.2 g0
  have g1 : ¬ (n0 : Int) > 20 := by omega
  have g2 : ¬ ((total rows : Nat) : Int) > 500 := by omega
  have HLB := hide (low_bytes (.slice ua n0 uc) rows w hR (by omega))
  rw [wrap_in (by omega)] at HLB
  have HLB2 := hide (low_bytes (.slice ub n2 vc) behind w hR2 (by omega))
  have HM2 := hide (behind_most hm2 lZ)
  have HOK := hide (ok_small (rows := rows) (by omega) (by omega) (by omega))
  have HPL : Hid ((puts (rows.map dat)).length ≤ 680) := by show _ ≤ _; rw [dats_len_eq]; omega
  have HRL : Hid (∀ r ∈ rows, r.length ≤ 500) := fun r hr => by have := total_mem hr; omega
  have HR := hide hR
  have HR2 := hide hR2
  have HNN := hide hn
  have HN2 := hide hn2
  clear hc hR hR2 hn hn2 hm2 lT
  generalize total rows = T at *
  generalize wrap64 ((total behind : Nat) : Int) = Z at *
  go_enter Try.func6, Try.ntmps6
  go_wp2_with fail
  refine (unhide HLB).mono ?_
  rintro e w' ⟨rfl, hw'⟩
  rw [hw']
  clear hw' HLB
  go_wp2_with fail
  refine (unhide HLB2).mono ?_
  rintro e w' ⟨rfl, hw'⟩
  rw [hw']
  clear hw' HLB2 w'
  go_wp2_with fail
  go_loopw [7, 42] (fun v i W => ∃ j : Nat, j ≤ n0 ∧ i = .int .i64 j ∧ Own w v (puts ((rows.take j).map dat)) W) (fun _ i _ => n0 - (intOf i).toNat)
  case atStart => exact ⟨0, Nat.zero_le _, rfl, Own.start w⟩
  case round =>
    obtain ⟨j, hj, rfl, hO⟩ := hrel
    have HO := hide hO
    clear hO
    by_cases hlt : j < n0
    · obtain ⟨x, hx⟩ := some_get (xs := rows) (j := j) (by have := unhide HNN; omega)
      obtain ⟨b1, o1, v1, e1, x1, x3⟩ := ((unhide HR).later (unhide HO).bb).at hx
      obtain ⟨d1, k1, ed1, _⟩ := x3.form
      have HMS := hide (map_take_succ hx)
      have hxl := unhide HRL x (List.mem_of_getElem? hx)
      have HTL : Hid ((puts ((rows.take j).map dat)).length ≤ 680) := by
        have h1 : (puts (rows.map dat)).length = (puts ((rows.take j).map dat)).length + (puts ((rows.drop j).map dat)).length := by rw [← List.length_append, ← puts_append, ← List.map_append, List.take_append_drop]
        have h2 := unhide HPL
        show _ ≤ _
        omega
      have HPE : Hid (putErr (dat x) = 0) := putErr_zero.2 (dat_right (by omega))
      have HPO : Hid (putOf (dat x) = (dat x).put) := if_pos (unhide HPE)
      have HPN : Hid ((dat x).put.length ≤ 600) := by show _ ≤ _; rw [put_len]; show 9 + x.length ≤ _; omega
      obtain ⟨nx, hnx⟩ : ∃ nx, nx = x.length := ⟨_, rfl⟩
      rw [← hnx] at ed1 hxl
      subst ed1
      cases e1
      have i1 : (j : Int) < (n0 : Int) := by omega
      have X3 := hide x3
      clear x3 hx hnx
      go_wp2_with fail
      refine (recPut_any (dat x) d1 nx k1 _ (unhide X3)).mono ?_
      rintro e w2 ⟨v2, rfl, hB2, hb2⟩
      rw [unhide HPE]
      rw [unhide HPO] at hB2
      have HO2 := hide ((unhide HO).later hb2)
      have HB2 := hide hB2
      clear hB2 hb2 HO X3
      go_wp2_with (at_builtin; refine wpList_append_bytes _ rfl _ _ 23 rfl 5 ti (.int .u8 0) Try.underlying23 hti hz0 hz1 hz2 rfl _ _ rfl (unhide HO2).own _ _ rfl (unhide HB2) (by have := unhide HTL; have := unhide HPN; omega) ?_)
      rintro v8 w8 r1 r2 r3
      have HO4 : Hid (Own w v8 (puts ((rows.take (j + 1)).map dat)) w8) := by
        have h := (unhide HO2).grown (cs := puts ((rows.take j).map dat) ++ (dat x).put) (by simpa using r1) r2 r3
        rw [← puts_snoc, ← unhide HMS] at h
        exact h
      clear r1 r2 r3 HO2 HB2
      go_wp2_with fail
      exact ⟨⟨j + 1, by omega, by go_num, unhide HO4⟩, by simp [intOf]; omega⟩
    · have ej : n0 = j := by omega
      subst ej
      have HTK : Hid (rows.take n0 = rows) := List.take_of_length_le (by rw [unhide HNN]; exact Nat.le_refl _)
      rw [unhide HTK] at HO
      obtain ⟨pa, pc, ep, _⟩ := (bytes_of_owns (unhide HO).own).form
      obtain ⟨NP, hNP⟩ : ∃ NP, NP = (puts (rows.map dat)).length := ⟨_, rfl⟩
      rw [← hNP] at ep HPL
      subst ep
      have HNP := hide hNP
      clear hNP HTK
      obtain ⟨lo, hlo⟩ : ∃ lo, lo = UInt8.ofNat (t % 256) := ⟨_, rfl⟩
      obtain ⟨hi, hhi⟩ : ∃ hi, hi = UInt8.ofNat (t / 256 % 256) := ⟨_, rfl⟩
      have HTW : Hid (two t = [lo, hi]) := by show _ = _; rw [hlo, hhi]; rfl
      have q1 : (t : Int) % 256 = ((lo.toNat : Nat) : Int) := by rw [hlo, u8_of _ (by omega)]; omega
      have q2 : (t : Int) / 256 = ((hi.toNat : Nat) : Int) := by rw [hhi, u8_of _ (by omega)]; omega
      have q3 := lo.toNat_lt
      have q4 := hi.toNat_lt
      have q5 : ((lo.toNat : Nat) : Int) % 256 = ((lo.toNat : Nat) : Int) := by omega
      have q6 : ((hi.toNat : Nat) : Int) % 256 = ((hi.toNat : Nat) : Int) := by omega
      clear hlo hhi
      have HCE : Hid (putErr (commit t) = 0) := putErr_zero.2 (commit_right t)
      have HCO : Hid (putOf (commit t) = (commit t).put) := if_pos (unhide HCE)
      have HCL : Hid ((commit t).put.length = 11) := by show _ = _; rw [put_len]; rfl
      go_wp2_with fail
      refine (recPut_any (commit t) _ 2 2 _ (two_bytes (unhide HTW) (heap_alloc_new wr _))).mono ?_
      rintro e w2 ⟨v2, rfl, hB2, hb2⟩
      rw [unhide HCO] at hB2
      rw [unhide HCE]
      have HO2 : Hid (Own w (.slice pa NP pc) (puts (rows.map dat)) w2) := (unhide HO).later (((Below.refl _ wr).alloc (Nat.le_refl _) _).trans (hb2.mono (by simp)))
      have HB2 := hide hB2
      clear hB2 hb2 HO q1 q2 q3 q4 q5 q6
      obtain ⟨ea, ec, ee, _⟩ := (unhide HB2).form
      rw [unhide HCL] at ee
      subst ee
      go_wp2_with fail
      refine ((unhide HC).put _ behind _ ((unhide HR2).later (unhide HO2).bb) (fun r hr h => by have := unhide HM2 r hr h; omega)).mono ?_
      rintro e w3 ⟨v3, rfl, hB3, hb3, hnw⟩
      have HO3 := hide ((unhide HO2).later hb3)
      have HE3 := hide ((unhide HB2).later hb3)
      have HB3 := hide hB3
      have HNW := hide hnw
      clear hB3 hb3 HB2 hnw
      have HML : Hid ((bputOf behind).length ≤ 600000) := by
        show _ ≤ _
        by_cases h0 : bputErr behind = 0
        · have ho := bputErr_zero.1 h0
          rw [show bputOf behind = bput behind from if_pos h0, bput_len]
          have h1 := total_most (rows := behind) (M := 500) (fun r hr => unhide HM2 r hr ho.1.2)
          have h2 := ho.1.2
          have h3 : behind.length * 500 ≤ 1024 * 500 := Nat.mul_le_mul_right _ h2
          omega
        · rw [show bputOf behind = [] from if_neg h0]
          simp
      have HSM := hide (scan_more behind)
      obtain ⟨ma, mc, em, _⟩ := (unhide HB3).form
      obtain ⟨LM, hLM⟩ : ∃ LM, LM = (bputOf behind).length := ⟨_, rfl⟩
      rw [← hLM] at em HML HSM
      subst em
      by_cases h0 : bputErr behind = 0
      · have HVM : Hid (Bytes w3 (.slice ma LM mc) (bputOf behind)) := unhide HB3
        have HVN : Hid (bputOf behind ≠ [] → ∀ k, (Value.slice ma LM mc).ownBlock = some k → (Value.slice pa NP pc).ownBlock ≠ some k) := fun hne k hk e => by have h1 := unhide HNW hne k hk; have h2 := (unhide HO2).own.lt k e; omega
        rw [if_pos h0] at HSM
        rw [h0]
        have HLM := hide hLM
        clear hLM h0 HB3 HNW HO2
        go_wp2_with (at_builtin; refine wpList_append_bytes _ rfl _ _ 23 rfl 5 ti (.int .u8 0) Try.underlying23 hti hz0 hz1 hz2 rfl _ (puts (rows.map dat)) rfl (unhide HO3).own _ (commit t).put rfl (unhide HE3) (by rw [unhide HCL, ← unhide HNP]; have := unhide HPL; omega) ?_)
        rintro v4 w4 r1 r2 r3
        have HO4 : Hid (Own w v4 (puts (rows.map dat) ++ (commit t).put) w4) := (unhide HO3).grown (by simpa using r1) r2 r3
        have HV4 := hide ((unhide HVM).past r2 (unhide HVN))
        clear r1 r2 r3 HVM HVN HO3 HE3
        have HL4 : Hid ((puts (rows.map dat) ++ (commit t).put).length = NP + 11) := by show _ = _; rw [List.length_append, unhide HCL, ← unhide HNP]
        go_wp2_with (at_builtin; refine wpList_append_bytes _ rfl _ _ 23 rfl 5 ti (.int .u8 0) Try.underlying23 hti hz0 hz1 hz2 rfl _ (puts (rows.map dat) ++ (commit t).put) rfl (unhide HO4).own _ (bputOf behind) rfl (unhide HV4) (by rw [unhide HL4, ← unhide HLM]; have := unhide HPL; have := unhide HML; omega) ?_)
        rintro v5 w5 r1 r2 r3
        have HO5 : Hid (Own w v5 (puts (rows.map dat) ++ (commit t).put ++ bputOf behind) w5) := (unhide HO4).grown (by simpa using r1) r2 r3
        clear r1 r2 r3 HO4 HV4
        obtain ⟨a5, c5, e5, _⟩ := (bytes_of_owns (unhide HO5).own).form
        have HL5 : Hid ((puts (rows.map dat) ++ (commit t).put ++ bputOf behind).length = NP + 11 + LM) := by show _ = _; rw [List.length_append, unhide HL4, ← unhide HLM]
        rw [unhide HL5] at e5
        obtain ⟨N5, hN5⟩ : ∃ N5, N5 = NP + 11 + LM := ⟨_, rfl⟩
        rw [← hN5] at e5
        subst e5
        have HN5 := hide hN5
        clear hN5
        go_wp2_with fail
        refine ((unhide HC).scan a5 N5 c5 _ _ (bytes_of_owns (unhide HO5).own) (by have := unhide HN5; have := unhide HPL; have := unhide HML; omega)).mono ?_
        rintro e w6 ⟨v6, bs6, m6, x6, rfl, hS6, hB6, hb6⟩
        have HB6 : Hid (Below w.heap.size w w6) := (unhide HO5).bb.trans (hb6.mono (unhide HO5).bb.size)
        have HA6 := hide hB6
        have HS6 := hide hS6
        clear hB6 hb6 hS6 HO5
        by_cases htn : t = n0
        · have htn' : (t : Int) = (n0 : Int) := by omega
          have hne : ((t : Int) != (n0 : Int)) = false := by rw [htn']; simp
          have HSC : Hid (ScanIs (puts (rows.map dat) ++ (commit t).put ++ bputOf behind) ([rows] ++ [behind]) ((bputs [rows]).length + LM) 0) := by
            have e : puts (rows.map dat) ++ (commit t).put = bputs [rows] := by rw [bputs_one]; unfold bput recsOf; rw [puts_snoc, unhide HNN, htn]
            rw [e]
            exact scan_behind (fun r hr => by rw [List.mem_singleton.1 hr]; exact unhide HOK) (unhide HSM)
          have HBL : Hid ((bputs [rows]).length = NP + 11) := by show _ = _; rw [bputs_one]; unfold bput recsOf; rw [puts_snoc, List.length_append, ← unhide HNP, put_len]; rfl
          obtain ⟨e1, e2, e3⟩ := (unhide HS6).same (unhide HSC)
          subst e1 e2 e3
          rw [unhide HBL] at HS6 HSC ⊢
          have HF6 := hide (unhide HS6).few
          clear HS6 HSC HSM
          subst htn
          clear htn'
          obtain ⟨a6, c6, e6, _⟩ := (unhide HA6).form
          have HR6 := hide ((unhide HR).later (unhide HB6))
          have HK6 := hide ((unhide HR2).later (unhide HB6))
          have HHO := hide (HeadsO.lit1 (E := RowsAt) (e := 22) (unhide HR6))
          have e6' : v6 = .slice a6 2 c6 := e6
          subst e6'
          clear e6
          have HHA := hide ((unhide HHO).later ((Below.refl _ _).alloc (Nat.le_refl _) (.cells #[.slice ub n2 vc] 22)))
          have HYY : Hid (ListAt (fun _ => RowsAt w6) ((w6.alloc (.cells #[.slice ua t uc] 22)).alloc (.cells #[.slice ub n2 vc] 22)) (.slice (some ⟨w6.heap.size + 1, 0, none⟩) 1 1) [behind]) := by
            have h := heap_alloc_new (w6.alloc (.cells #[.slice ua t uc] 22)) (.cells #[.slice ub n2 vc] 22)
            rw [World.size_alloc] at h
            exact ListAt.one (E := RowsAt) h (unhide HK6)
          go_wp2_with (at_builtin; refine wpList_append_headsW rfl _ _ 33 22 rfl Try.underlying33 infoRows0 (fun u y h => rows_one h) _ [rows] rfl (unhide HHA) _ _ _ [behind] rfl (unhide HYY) (by show 1 + 1 ≤ _; omega) ?_)
          rintro v7 w7 hO7
          have HA7 := hide ((unhide HA6).later hO7.bb)
          have HW7 : Hid (BatchesAt w7 v7 ([rows] ++ [behind])) := hO7.listAt (fun h hb => RowsAt.later h hb)
          have HB7 : Hid (Below w.heap.size w w7) := (unhide HB6).trans (hO7.bb.mono (unhide HB6).size)
          obtain ⟨a7, c7, e7⟩ := hO7.form
          have e7' : v7 = .slice a7 2 c7 := e7
          subst e7'
          clear e7 hO7 HHO HHA HYY HA6 HB6
          go_wp2_with fail
          refine (low_sameBatches _ _ ([rows] ++ [behind]) ([rows] ++ [behind]) _ (unhide HA7) (unhide HW7) (by show _ ≤ 140737488355328; simp) (fun x hx => by have := (unhide HF6).1 x hx; omega)).mono ?_
          rintro e w8 ⟨rfl, hb8⟩
          rw [show decide (([rows] ++ [behind]) = ([rows] ++ [behind])) = true from decide_eq_true rfl]
          have HB8 : Hid (Below w.heap.size w w8) := (unhide HB7).trans (hb8.mono (unhide HB7).size)
          clear hb8 HB7 HA7 HW7
          have hPL := unhide HPL
          have hML := unhide HML
          go_wp2_with fail
          refine (awake_any (unhide HC) _).mono ?_
          rintro e w9 ⟨rfl, hb9⟩
          have HB9 : Hid (Below w.heap.size w w9) := (unhide HB8).trans (hb9.mono (unhide HB8).size)
          clear hb9 HB8
          go_wp2_with fail
          go_ret
          exact ⟨rfl, unhide HB9⟩
        · have hne : ((t : Int) != (n0 : Int)) = true := bne_iff_ne.2 (by omega)
          have hne' : ((t : Int) == (n0 : Int)) = false := beq_eq_false_iff_ne.2 (by omega)
          obtain ⟨e1, e2, e3⟩ := (unhide HS6).same (scan_mixed (unhide HOK) ht (by rw [unhide HNN]; exact htn) (bputOf behind))
          subst e1 e2 e3
          obtain ⟨a6, c6, e6, _⟩ := (unhide HA6).form
          have e6' : v6 = .slice a6 0 c6 := e6
          subst e6'
          clear e6 HS6 HSM HA6 htn
          go_wp2_with fail
          refine (awake_any (unhide HC) _).mono ?_
          rintro e w9 ⟨rfl, hb9⟩
          have HB9 : Hid (Below w.heap.size w w9) := (unhide HB6).trans (hb9.mono (unhide HB6).size)
          clear hb9 HB6
          go_wp2_with fail
          go_ret
          exact ⟨rfl, unhide HB9⟩
      · have HVM : Hid (Bytes w3 (.slice none 0 0) (bputOf behind)) := by rw [show bputOf behind = [] from if_neg h0]; exact .inl ⟨rfl, rfl⟩
        have HVN : Hid (bputOf behind ≠ [] → ∀ k, (Value.slice none 0 0).ownBlock = some k → (Value.slice pa NP pc).ownBlock ≠ some k) := fun _ k hk => (by cases hk)
        rw [if_neg h0] at HSM
        have HL0 : Hid (LM = 0) := by show _ = _; rw [hLM, show bputOf behind = [] from if_neg h0]; rfl
        have h0' : (bputErr behind == 0) = false := beq_eq_false_iff_ne.2 h0
        have h0'' : (bputErr behind != 0) = true := bne_iff_ne.2 h0
        generalize bputErr behind = ee at *
        have HLM := hide hLM
        clear hLM h0 HB3 HNW HO2
        go_wp2_with (at_builtin; refine wpList_append_bytes _ rfl _ _ 23 rfl 5 ti (.int .u8 0) Try.underlying23 hti hz0 hz1 hz2 rfl _ (puts (rows.map dat)) rfl (unhide HO3).own _ (commit t).put rfl (unhide HE3) (by rw [unhide HCL, ← unhide HNP]; have := unhide HPL; omega) ?_)
        rintro v4 w4 r1 r2 r3
        have HO4 : Hid (Own w v4 (puts (rows.map dat) ++ (commit t).put) w4) := (unhide HO3).grown (by simpa using r1) r2 r3
        have HV4 := hide ((unhide HVM).past r2 (unhide HVN))
        clear r1 r2 r3 HVM HVN HO3 HE3
        have HL4 : Hid ((puts (rows.map dat) ++ (commit t).put).length = NP + 11) := by show _ = _; rw [List.length_append, unhide HCL, ← unhide HNP]
        go_wp2_with (at_builtin; refine wpList_append_bytes _ rfl _ _ 23 rfl 5 ti (.int .u8 0) Try.underlying23 hti hz0 hz1 hz2 rfl _ (puts (rows.map dat) ++ (commit t).put) rfl (unhide HO4).own _ (bputOf behind) rfl (unhide HV4) (by rw [unhide HL4, ← unhide HLM]; have := unhide HPL; have := unhide HML; omega) ?_)
        rintro v5 w5 r1 r2 r3
        have HO5 : Hid (Own w v5 (puts (rows.map dat) ++ (commit t).put ++ bputOf behind) w5) := (unhide HO4).grown (by simpa using r1) r2 r3
        clear r1 r2 r3 HO4 HV4
        obtain ⟨a5, c5, e5, _⟩ := (bytes_of_owns (unhide HO5).own).form
        have HL5 : Hid ((puts (rows.map dat) ++ (commit t).put ++ bputOf behind).length = NP + 11 + LM) := by show _ = _; rw [List.length_append, unhide HL4, ← unhide HLM]
        rw [unhide HL5] at e5
        obtain ⟨N5, hN5⟩ : ∃ N5, N5 = NP + 11 + LM := ⟨_, rfl⟩
        rw [← hN5] at e5
        subst e5
        have HN5 := hide hN5
        clear hN5
        go_wp2_with fail
        refine ((unhide HC).scan a5 N5 c5 _ _ (bytes_of_owns (unhide HO5).own) (by have := unhide HN5; have := unhide HPL; have := unhide HML; omega)).mono ?_
        rintro e w6 ⟨v6, bs6, m6, x6, rfl, hS6, hB6, hb6⟩
        have HB6 : Hid (Below w.heap.size w w6) := (unhide HO5).bb.trans (hb6.mono (unhide HO5).bb.size)
        have HA6 := hide hB6
        have HS6 := hide hS6
        clear hB6 hb6 hS6 HO5
        by_cases htn : t = n0
        · have htn' : (t : Int) = (n0 : Int) := by omega
          have hne : ((t : Int) != (n0 : Int)) = false := by rw [htn']; simp
          have HSC : Hid (ScanIs (puts (rows.map dat) ++ (commit t).put ++ bputOf behind) ([rows] ++ []) ((bputs [rows]).length + LM) 0) := by
            have e : puts (rows.map dat) ++ (commit t).put = bputs [rows] := by rw [bputs_one]; unfold bput recsOf; rw [puts_snoc, unhide HNN, htn]
            rw [e]
            exact scan_behind (fun r hr => by rw [List.mem_singleton.1 hr]; exact unhide HOK) (unhide HSM)
          have HBL : Hid ((bputs [rows]).length = NP + 11) := by show _ = _; rw [bputs_one]; unfold bput recsOf; rw [puts_snoc, List.length_append, ← unhide HNP, put_len]; rfl
          obtain ⟨e1, e2, e3⟩ := (unhide HS6).same (unhide HSC)
          subst e1 e2 e3
          rw [unhide HBL] at HS6 HSC ⊢
          have HF6 := hide (unhide HS6).few
          clear HS6 HSC HSM
          subst htn
          clear htn'
          obtain ⟨a6, c6, e6, _⟩ := (unhide HA6).form
          have HR6 := hide ((unhide HR).later (unhide HB6))
          have HK6 := hide ((unhide HR2).later (unhide HB6))
          have HHO := hide (HeadsO.lit1 (E := RowsAt) (e := 22) (unhide HR6))
          have e6' : v6 = .slice a6 1 c6 := e6
          subst e6'
          clear e6
          have HA7 := hide ((unhide HA6).later (unhide HHO).bb)
          have HW7 : Hid (BatchesAt (w6.alloc (.cells #[.slice ua t uc] 22)) (.slice (some ⟨w6.heap.size, 0, none⟩) 1 1) ([rows] ++ [])) := (unhide HHO).listAt (fun h hb => RowsAt.later h hb)
          have HB7 : Hid (Below w.heap.size w (w6.alloc (.cells #[.slice ua t uc] 22))) := (unhide HB6).trans ((unhide HHO).bb.mono (unhide HB6).size)
          clear HHO HA6 HB6
          go_wp2_with fail
          refine (low_sameBatches _ _ ([rows] ++ []) ([rows] ++ []) _ (unhide HA7) (unhide HW7) (by show _ ≤ 140737488355328; simp) (fun x hx => by have := (unhide HF6).1 x hx; omega)).mono ?_
          rintro e w8 ⟨rfl, hb8⟩
          rw [show decide (([rows] ++ []) = ([rows] ++ [])) = true from decide_eq_true rfl]
          have HB8 : Hid (Below w.heap.size w w8) := (unhide HB7).trans (hb8.mono (unhide HB7).size)
          clear hb8 HB7 HA7 HW7
          have hPL := unhide HPL
          have hML := unhide HML
          have hL0 := unhide HL0
          subst hL0
          go_wp2_with fail
          refine (awake_any (unhide HC) _).mono ?_
          rintro e w9 ⟨rfl, hb9⟩
          have HB9 : Hid (Below w.heap.size w w9) := (unhide HB8).trans (hb9.mono (unhide HB8).size)
          clear hb9 HB8
          go_wp2_with fail
          go_ret
          exact ⟨rfl, unhide HB9⟩
        · have hne : ((t : Int) != (n0 : Int)) = true := bne_iff_ne.2 (by omega)
          have hne' : ((t : Int) == (n0 : Int)) = false := beq_eq_false_iff_ne.2 (by omega)
          obtain ⟨e1, e2, e3⟩ := (unhide HS6).same (scan_mixed (unhide HOK) ht (by rw [unhide HNN]; exact htn) (bputOf behind))
          subst e1 e2 e3
          obtain ⟨a6, c6, e6, _⟩ := (unhide HA6).form
          have e6' : v6 = .slice a6 0 c6 := e6
          subst e6'
          clear e6 HS6 HSM HA6 htn
          go_wp2_with fail
          refine (awake_any (unhide HC) _).mono ?_
          rintro e w9 ⟨rfl, hb9⟩
          have HB9 : Hid (Below w.heap.size w w9) := (unhide HB6).trans (hb9.mono (unhide HB6).size)
          clear hb9 HB6
          go_wp2_with fail
          go_ret
          exact ⟨rfl, unhide HB9⟩

theorem batchMixed_any (ht : t < 65536) (hR : RowsAt w (.slice ua n0 uc) rows) (hn : rows.length = n0) (hm : ∀ r ∈ rows, r.length ≤ 140737488355328) (hR2 : RowsAt w (.slice ub n2 vc) behind) (hn2 : behind.length = n2) (hx2 : n2 ≤ 140737488355328) (hm2 : ∀ r ∈ behind, r.length ≤ 140737488355328) : Calls Try.prog 6 #[.slice ua n0 uc, .int .u16 (t : Nat), .slice ub n2 vc] w fun e w' => e = .returned (.bool true) ∧ Below w.heap.size w w' := by
  by_cases hl : n0 = 0 ∨ n0 > 20 ∨ total rows > 500 ∨ wrap64 ((total behind : Nat) : Int) > 500
  · exact batchMixed_long hc ua ub n0 uc t n2 vc rows behind w hR hn hm hR2 hn2 hx2 hl
  · exact batchMixed_short hc ua ub n0 uc t n2 vc rows behind w ht hR hn hR2 hn2 hx2 hm2 (by omega) (by omega) (by omega) (by omega)
end
end Go.Proofs.Ytbbglgfgelnncaa
