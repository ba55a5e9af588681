/- BatchTells, walked over BatchOk. -/
import Derived.Test.YtbbglgfgelnncaaBatchAwake
namespace Go.Proofs.Ytbbglgfgelnncaa
open Go.RowKit

theorem scanGo_few (f : Nat → Int) : ∀ (rs : List RecD) (out : List (List (List UInt8))) (kept : List (List UInt8)) (a en : Nat) (bs : List (List (List UInt8))) (n : Nat) (x : Int),
    scanGo f rs out kept a en = (bs, n, x) → (∀ r ∈ out, r.length ≤ 1024) → kept.length ≤ 1024 → (∀ r ∈ bs, r.length ≤ 1024) ∧ bs.length ≤ out.length + rs.length
  | [], out, kept, a, en, bs, n, x, h, ho, _ => by
    simp only [scanGo, Prod.mk.injEq] at h
    obtain ⟨rfl, _, _⟩ := h
    exact ⟨ho, by simp⟩
  | r :: rs, out, kept, a, en, bs, n, x, h, ho, hk => by
    rw [scanGo] at h
    rw [List.length_cons]
    by_cases h1 : r.k = 1
    · rw [if_pos h1] at h
      by_cases h2 : kept.length = 1024
      · rw [if_pos h2] at h
        simp only [Prod.mk.injEq] at h
        obtain ⟨rfl, _, _⟩ := h
        exact ⟨ho, by omega⟩
      · rw [if_neg h2] at h
        have := scanGo_few f rs out _ _ en bs n x h ho (by rw [List.length_append, List.length_singleton]; omega)
        exact ⟨this.1, by omega⟩
    · rw [if_neg h1] at h
      by_cases h2 : kept.length = 0 ∨ r.d.length ≠ 2 ∨ le r.d ≠ kept.length
      · rw [if_pos h2] at h
        simp only [Prod.mk.injEq] at h
        obtain ⟨rfl, _, _⟩ := h
        exact ⟨ho, by omega⟩
      · rw [if_neg h2] at h
        have := scanGo_few f rs (out ++ [kept]) [] _ _ bs n x h (fun r' hr' => by
          rcases List.mem_append.1 hr' with e | e
          · exact ho r' e
          · rw [List.mem_singleton.1 e]; exact hk) (by simp)
        rw [List.length_append, List.length_singleton] at this
        exact ⟨this.1, by omega⟩
theorem ScanIs.few {b : List UInt8} {bs : List (List (List UInt8))} {n : Nat} {x : Int} (h : ScanIs b bs n x) : (∀ r ∈ bs, r.length ≤ 1024) ∧ bs.length ≤ b.length := by
  obtain ⟨rs, m, e, h1, h2⟩ := h
  have h3 := scanGo_few _ rs [] [] 0 0 bs n x h2 (fun r hr => (by cases hr)) (by simp)
  have h4 := h1.few
  rw [List.length_nil] at h3
  exact ⟨h3.1, by omega⟩
theorem CutIs.few {b : List UInt8} {rows : List (List UInt8)} (h : CutIs b rows) : rows.length ≤ b.length + 1 := by
  obtain ⟨out, last, rfl, rfl, h1, _, _⟩ := h
  rw [List.length_append, List.length_append, flat_len h1, List.length_singleton]
  omega
theorem total_most {rows : List (List UInt8)} {M : Nat} (h : ∀ r ∈ rows, r.length ≤ M) : total rows ≤ rows.length * M := by
  induction rows with
  | nil => simp [total]
  | cons r rows ih =>
    have h1 := h r (List.mem_cons_self ..)
    have h2 := ih fun r' hr' => h r' (List.mem_cons_of_mem _ hr')
    rw [List.length_cons, Nat.succ_mul]
    show r.length + total rows ≤ _
    omega
/-- Of so few rows the bytes are told as they are. -/
theorem bytes_few {rows : List (List UInt8)} (h : ∀ r ∈ rows, r.length ≤ 140737488355328) (hl : rows.length ≤ 2000) : wrap64 ((total rows : Nat) : Int) = ((total rows : Nat) : Int) := by
  refine wrap_in (Nat.le_trans (total_most h) ?_)
  have : rows.length * 140737488355328 ≤ 2000 * 140737488355328 := Nat.mul_le_mul_right _ hl
  omega

section
variable (hc : BatchOk) (ua a1 a2 : Option Addr) (n0 uc n1 c1 n2 c2 : Nat) (rows : List (List UInt8)) (w : World)
include hc

set_option maxRecDepth 100000 in
set_option maxHeartbeats 8000000 in
theorem batchTells_long (hR : RowsAt w (.slice ua n0 uc) rows) (hn : rows.length = n0) (hm : ∀ r ∈ rows, r.length ≤ 140737488355328) (hl : n0 > 2000 ∨ total rows > 9000 ∨ n1 > 9000 ∨ n2 > 20000) : Calls Try.prog 3 #[.slice ua n0 uc, .slice a1 n1 c1, .slice a2 n2 c2] w fun e w' => e = .returned (.bool true) ∧ Below w.heap.size w w' := by
  have HC := hide hc
  clear hc
  by_cases h0 : n0 > 2000
  · have g0 : (n0 : Int) > 2000 := by omega
    clear hl hR hn h0
    go_enter Try.func3, Try.ntmps3
    go_wp2_with fail
    refine (awake_any (unhide HC) _).mono ?_
    rintro e w2 ⟨rfl, hb⟩
    have HB := hide hb
    clear hb
    go_wp2_with fail
    go_ret
    exact ⟨rfl, unhide HB⟩
  · have g0 : ¬ (n0 : Int) > 2000 := by omega
    have HW := hide (bytes_few hm (by omega))
    have HR := hide hR
    have HN : Hid (rows.length ≤ 140737488355328) := by show _ ≤ _; omega
    have hcase : ((total rows : Nat) : Int) > 9000 ∨ (¬ ((total rows : Nat) : Int) > 9000 ∧ (n1 : Int) > 9000) ∨ (¬ ((total rows : Nat) : Int) > 9000 ∧ ¬ (n1 : Int) > 9000 ∧ (n2 : Int) > 20000) := by omega
    have HLB := hide (low_bytes (.slice ua n0 uc) rows w hR (unhide HN))
    rw [unhide HW] at HLB
    clear hl hR hn h0 hm HW
    generalize total rows = T at *
    rcases hcase with g1 | ⟨g1, g2⟩ | ⟨g1, g2, g3⟩
    all_goals go_enter Try.func3, Try.ntmps3
    all_goals go_wp2_with fail
    all_goals refine (unhide HLB).mono ?_
    all_goals rintro e w' ⟨rfl, hw'⟩
    all_goals rw [hw']
    all_goals clear hw' HLB
    all_goals go_wp2_with fail
    all_goals refine (awake_any (unhide HC) _).mono ?_
    all_goals rintro e w2 ⟨rfl, hb⟩
    all_goals have HB := hide hb
    all_goals clear hb
    all_goals go_wp2_with fail
    all_goals go_ret
    all_goals exact ⟨rfl, unhide HB⟩

set_option maxRecDepth 100000 in
set_option maxHeartbeats 8000000 in
theorem batchTells_short (b long : List UInt8) (hR : RowsAt w (.slice ua n0 uc) rows) (hn : rows.length = n0) (h1 : Bytes w (.slice a1 n1 c1) b) (h2 : Bytes w (.slice a2 n2 c2) long) (l0 : n0 ≤ 2000) (lT : total rows ≤ 9000) (l1 : n1 ≤ 9000) (l2 : n2 ≤ 20000) : Calls Try.prog 3 #[.slice ua n0 uc, .slice a1 n1 c1, .slice a2 n2 c2] w fun e w' => e = .returned (.bool true) ∧ Below w.heap.size w w' := by
  have HC := hide hc
  have g0 : ¬ (n0 : Int) > 2000 := by omega
  have g1 : ¬ ((total rows : Nat) : Int) > 9000 := by omega
  have g2 : ¬ (n1 : Int) > 9000 := by omega
  have g3 : ¬ (n2 : Int) > 20000 := by omega
  have HMX : Hid (∀ r ∈ rows, rows.length ≤ 1024 → r.length ≤ 1048576) := fun r hr _ => by have := total_mem hr; omega
  have HN : Hid (rows.length ≤ 140737488355328) := by show _ ≤ _; omega
  have HLB := hide (low_bytes (.slice ua n0 uc) rows w hR (unhide HN))
  rw [wrap_in (by omega)] at HLB
  have HR := hide hR
  have H1 := hide h1
  have H2 := hide h2
  have HN1 : Hid (n1 ≤ 1048576) := by show _ ≤ _; omega
  have HN2 : Hid (n2 ≤ 1048576) := by show _ ≤ _; omega
  have HL1 := hide (bytes_len h1).1
  have HL2 := hide (bytes_len h2).1
  clear hc hR h1 h2 hn lT l0
  generalize total rows = T at *
  go_enter Try.func3, Try.ntmps3
  go_wp2_with fail
  refine (unhide HLB).mono ?_
  rintro e w' ⟨rfl, hw'⟩
  rw [hw']
  clear hw' HLB
  go_wp2_with fail
  refine ((unhide HC).put _ rows _ (unhide HR) (unhide HMX)).mono ?_
  rintro e w2 ⟨v2, rfl, hB2, hb2, _⟩
  have HB2 := hide hb2
  have HV2 := hide hB2
  clear hb2 hB2
  go_wp2_with fail
  refine (refBPut_any _ rows _ ((unhide HR).later (unhide HB2)) (unhide HMX)).mono ?_
  rintro e w3 ⟨v3, rfl, hF3⟩
  have HB3 : Hid (Below w.heap.size w w3) := (unhide HB2).trans (hF3.1.2.2.mono (unhide HB2).size)
  have HV2' := hide ((unhide HV2).later hF3.1.2.2)
  have HV3 := hide hF3.1.1
  clear hF3 HV2 HB2
  obtain ⟨va3, vc3, ev3, _⟩ := (unhide HV3).form
  obtain ⟨va2, vc2, ev2, _⟩ := (unhide HV2').form
  subst ev3 ev2
  go_wp2_with fail
  refine ((unhide HC).long _ rows _ ((unhide HR).later (unhide HB3)) (unhide HMX)).mono ?_
  rintro e w4 ⟨rfl, hb4⟩
  have HB4 : Hid (Below w.heap.size w w4) := (unhide HB3).trans (hb4.mono (unhide HB3).size)
  have HX := hide ((unhide HV2').later hb4)
  have HY := hide ((unhide HV3).later hb4)
  clear hb4 HV2' HV3 HB3
  generalize bputErr rows = ee at *
  obtain ⟨LL, hLL⟩ : ∃ LL, LL = (bputOf rows).length := ⟨_, rfl⟩
  rw [← hLL] at HX HY ⊢
  clear hLL
  go_wp2_with fail
  refine (low_same _ _ (bputOf rows) (bputOf rows) _ (unhide HX) (unhide HY)).mono ?_
  rintro e w' ⟨rfl, hw'⟩
  rw [hw', show decide (bputOf rows = bputOf rows) = true from decide_eq_true rfl]
  clear hw' HX HY
  go_wp2_with fail
  refine (low_anew _ b _ ((unhide H1).later (unhide HB4)) (by rw [unhide HL1]; exact unhide HN1)).mono ?_
  rintro e w5 ⟨v5, rfl, hF5⟩
  have HB5 : Hid (Below w.heap.size w w5) := (unhide HB4).trans (hF5.1.2.2.mono (unhide HB4).size)
  obtain ⟨va5, vc5, ev5, _⟩ := hF5.1.1.form
  rw [unhide HL1] at ev5
  subst ev5
  have HV5 := hide hF5.1.1
  clear hF5 HB4
  go_wp2_with fail
  refine ((unhide HC).scan _ _ _ b _ (unhide HV5) (unhide HN1)).mono ?_
  rintro e w6 ⟨v6, bs, m6, x6, rfl, hS, hBs, hb6⟩
  have HB6 : Hid (Below w.heap.size w w6) := (unhide HB5).trans (hb6.mono (unhide HB5).size)
  have HV6 := hide ((unhide HV5).later hb6)
  have HS := hide hS
  have HBS := hide hBs
  clear hS hBs hb6 HV5 HB5
  go_wp2_with fail
  refine (refScan_any a1 n1 c1 b _ ((unhide H1).later (unhide HB6)) (unhide HN1)).mono ?_
  rintro e w7 ⟨v7, bs', m7, x7, rfl, hS', hBs', hb7⟩
  obtain ⟨rfl, rfl, rfl⟩ := (unhide HS).same hS'
  have HB7 : Hid (Below w.heap.size w w7) := (unhide HB6).trans (hb7.mono (unhide HB6).size)
  have HV7 := hide ((unhide HV6).later hb7)
  have HBA := hide ((unhide HBS).later hb7)
  have HBB := hide hBs'
  have HFW := hide hS'.few
  clear hS' hBs' hb7 HV6 HBS HB6 HS
  obtain ⟨xa6, xc6, ex6, _⟩ := (unhide HBA).form
  obtain ⟨xa7, xc7, ex7, _⟩ := (unhide HBB).form
  obtain ⟨nb, hnb⟩ : ∃ nb, nb = bs.length := ⟨_, rfl⟩
  rw [← hnb] at ex6 ex7
  subst ex6 ex7
  have HNB := hide hnb
  clear hnb
  go_wp2_with fail
  refine (low_sameBatches _ _ bs bs _ (unhide HBA) (unhide HBB) (by have := (unhide HFW).2; have := unhide HL1; omega) (fun x hx => by have := (unhide HFW).1 x hx; omega)).mono ?_
  rintro e w8 ⟨rfl, hb8⟩
  rw [show decide (bs = bs) = true from decide_eq_true rfl]
  have HB8 : Hid (Below w.heap.size w w8) := (unhide HB7).trans (hb8.mono (unhide HB7).size)
  have HV8 := hide ((unhide HV7).later hb8)
  clear hb8 HB7 HV7 HBA HBB
  go_wp2_with fail
  refine (low_same _ _ b b _ ((unhide H1).later (unhide HB8)) (unhide HV8)).mono ?_
  rintro e w' ⟨rfl, hw'⟩
  rw [hw', show decide (b = b) = true from decide_eq_true rfl]
  clear hw' HV8
  go_wp2_with fail
  refine ((unhide HC).cut a2 n2 c2 long _ ((unhide H2).later (unhide HB8)) (unhide HN2)).mono ?_
  rintro e w9 ⟨v9, rs, rfl, hCut, hLs, hb9⟩
  have HB9 : Hid (Below w.heap.size w w9) := (unhide HB8).trans (hb9.mono (unhide HB8).size)
  have HRA : Hid (RowsAt w9 v9 rs) := hLs.imp fun v x h => h.1
  have HCU := hide hCut
  clear hCut hLs hb9 HB8
  obtain ⟨xa9, xc9, ex9, _⟩ := (unhide HRA).form
  obtain ⟨nr, hnr⟩ : ∃ nr, nr = rs.length := ⟨_, rfl⟩
  rw [← hnr] at ex9
  subst ex9
  have HNR := hide hnr
  clear hnr
  go_wp2_with fail
  refine (refCut_any a2 n2 c2 long _ ((unhide H2).later (unhide HB9)) (unhide HN2)).mono ?_
  rintro e w10 ⟨v10, rs', rfl, hCut', hRO, hb10⟩
  obtain rfl := (unhide HCU).same hCut'
  have HB10 : Hid (Below w.heap.size w w10) := (unhide HB9).trans (hb10.mono (unhide HB9).size)
  have HRB := hide (hRO.rowsAt hb10)
  have HRA' := hide ((unhide HRA).later hb10)
  obtain ⟨xa10, xc10, ex10⟩ := hRO.form
  rw [← unhide HNR] at ex10
  subst ex10
  clear hCut' hRO hb10 HRA HB9
  go_wp2_with fail
  refine (low_sameRows _ _ rs rs _ (unhide HRA') (unhide HRB) (by have := (unhide HCU).few; have := unhide HL2; omega)).mono ?_
  rintro e w11 ⟨rfl, hb11⟩
  rw [show decide (rs = rs) = true from decide_eq_true rfl]
  have HB11 : Hid (Below w.heap.size w w11) := (unhide HB10).trans (hb11.mono (unhide HB10).size)
  clear hb11 HB10 HRA' HRB
  go_wp2_with fail
  refine (awake_any (unhide HC) _).mono ?_
  rintro e w12 ⟨rfl, hb12⟩
  have HB12 : Hid (Below w.heap.size w w12) := (unhide HB11).trans (hb12.mono (unhide HB11).size)
  clear hb12 HB11
  go_wp2_with fail
  go_ret
  exact ⟨rfl, unhide HB12⟩

theorem batchTells_any (b long : List UInt8) (hR : RowsAt w (.slice ua n0 uc) rows) (hn : rows.length = n0) (hm : ∀ r ∈ rows, r.length ≤ 140737488355328) (h1 : Bytes w (.slice a1 n1 c1) b) (h2 : Bytes w (.slice a2 n2 c2) long) : Calls Try.prog 3 #[.slice ua n0 uc, .slice a1 n1 c1, .slice a2 n2 c2] w fun e w' => e = .returned (.bool true) ∧ Below w.heap.size w w' := by
  by_cases hl : n0 > 2000 ∨ total rows > 9000 ∨ n1 > 9000 ∨ n2 > 20000
  · exact batchTells_long hc ua a1 a2 n0 uc n1 c1 n2 c2 rows w hR hn hm hl
  · exact batchTells_short hc ua a1 a2 n0 uc n1 c1 n2 c2 rows w b long hR hn h1 h2 (by omega) (by omega) (by omega) (by omega)
end
end Go.Proofs.Ytbbglgfgelnncaa
