/- BatchBehind, walked over BatchOk, where what comes in is not too great. -/
import Derived.Test.YtbbglgfgelnncaaBatchTells
import Derived.Test.YtbbglgfgelnncaaBatchWritten
import Derived.Test.YtbbglgfgelnncaaGenHeads
namespace Go.Proofs.Ytbbglgfgelnncaa
open Go.RowKit

theorem rows_one {w : World} {u : Value} {x : List (List UInt8)} (h : RowsAt w u x) : u.oneCell' = true := by
  obtain ⟨a, c, rfl, _⟩ := h.form
  rfl
theorem bytes_one_cell {w : World} {u : Value} {x : List UInt8} (h : Bytes w u x) : u.oneCell' = true := by
  obtain ⟨a, c, rfl, _⟩ := h.form
  rfl
theorem scanGo_end (f : Nat → Int) : ∀ (rs : List RecD) (out : List (List (List UInt8))) (kept : List (List UInt8)) (a en : Nat) (bs : List (List (List UInt8))) (n : Nat) (x : Int),
    scanGo f rs out kept a en = (bs, n, x) → en ≤ a → n ≤ a + (puts rs).length
  | [], out, kept, a, en, bs, n, x, h, he => by
    simp only [scanGo, Prod.mk.injEq] at h
    omega
  | r :: rs, out, kept, a, en, bs, n, x, h, he => by
    rw [scanGo] at h
    rw [puts_cons, List.length_append, put_len]
    by_cases h1 : r.k = 1
    · rw [if_pos h1] at h
      by_cases h2 : kept.length = 1024
      · rw [if_pos h2] at h
        simp only [Prod.mk.injEq] at h
        omega
      · rw [if_neg h2] at h
        have := scanGo_end f rs out _ _ en bs n x h (by omega)
        omega
    · rw [if_neg h1] at h
      by_cases h2 : kept.length = 0 ∨ r.d.length ≠ 2 ∨ le r.d ≠ kept.length
      · rw [if_pos h2] at h
        simp only [Prod.mk.injEq] at h
        omega
      · rw [if_neg h2] at h
        have := scanGo_end f rs (out ++ [kept]) [] _ _ bs n x h (Nat.le_refl _)
        omega
theorem ScanIs.most {b : List UInt8} {bs : List (List (List UInt8))} {n : Nat} {x : Int} (h : ScanIs b bs n x) : n ≤ b.length := by
  obtain ⟨rs, m, e, h1, h2⟩ := h
  have h3 := scanGo_end _ rs [] [] 0 0 bs n x h2 (Nat.le_refl _)
  have h4 := h1.puts
  rw [h4.1, List.length_take] at h3
  omega
/-- Few batches have few bytes. -/
theorem bputs_few {l : List (List (List UInt8))} : (bputs l).length ≤ 20 * weight l + 11 * l.length := by
  induction l with
  | nil => simp [bputs_nil]
  | cons rows l ih =>
    have e : bputs (rows :: l) = bput rows ++ bputs l := by
      have : rows :: l = [rows] ++ l := rfl
      rw [this, bputs_append, bputs_one]
    have h1 : (puts (rows.map dat)).length ≤ 9 * rows.length + total rows := by
      clear ih e
      induction rows with
      | nil => simp [puts, total]
      | cons r rows ih =>
        rw [List.map_cons, puts_cons, List.length_append, put_len, List.length_cons]
        show 9 + r.length + _ ≤ 9 * (rows.length + 1) + (r.length + total rows)
        omega
    have h2 : (bput rows).length = (puts (rows.map dat)).length + (9 + 2) := by
      unfold bput recsOf
      rw [puts_snoc, List.length_append, put_len]
      rfl
    rw [e, List.length_append, List.length_cons]
    show _ ≤ 20 * (rows.length + total rows + weight l) + 11 * (l.length + 1)
    omega

section
variable (hc : BatchOk) (l : List (List (List UInt8))) (ua a2 : Option Addr) (n uc n2 c2 : Nat) (more : List UInt8) (w : World) (h : BatchesAt w (.slice ua n uc) l) (hn : l.length = n) (hl : n ≤ 1048576) (hw : weight l ≤ 1048576) (h2 : Bytes w (.slice a2 n2 c2) more)
include hc h hn hl hw h2

set_option maxRecDepth 100000 in
set_option maxHeartbeats 8000000 in
theorem batchBehind_any : Calls Try.prog 5 #[.slice ua n uc, .slice a2 n2 c2] w fun e w' => e = .returned (.bool true) ∧ Below w.heap.size w w' := by
  obtain ⟨ti, hti, hz0, hz1, hz2⟩ := infoByte
  have HC := hide hc
  have HH := hide h
  have HN := hide hn
  have H2 := hide h2
  have HL2 := hide (bytes_len h2).1
  have HD : Hid (∀ rows ∈ l, ∀ r ∈ rows, rows.length ≤ 1024 → r.length ≤ 1048576) := fun rows hr r hr2 _ => by have h1 := weight_mem hr; have h2 := total_mem hr2; omega
  have HR : Hid (∀ x ∈ l, x.length ≤ 140737488355328) := fun x hx => by have := weight_mem hx; omega
  have HW := hide hw
  clear hc h hn hw h2
  go_enter Try.func5, Try.ntmps5
  go_wp2_with fail
  refine (bwritten_any (unhide HC) _ l _ (unhide HH) (by have := unhide HN; omega) (unhide HD)).mono ?_
  rintro e w1 (⟨hrt, v1, v2, rfl, hT⟩ | ⟨_, rfl, hb⟩)
  case inr =>
    have HB := hide hb
    clear hb
    go_wp2_with fail
    refine (awake_any (unhide HC) _).mono ?_
    rintro e w2 ⟨rfl, hb⟩
    have HB2 := hide ((unhide HB).trans (hb.mono (unhide HB).size))
    clear hb
    go_wp2_with fail
    go_ret
    exact ⟨rfl, unhide HB2⟩
  have HRT := hide hrt
  have HB1 := hide hT.o1.bb
  have HV1 := hide (bytes_of_owns hT.o1.own)
  clear hrt hT
  go_wp2_with fail
  refine (low_few _ l _ ((unhide HH).later (unhide HB1)) (by have := unhide HN; omega) (by have := unhide HW; omega) (unhide HR)).mono ?_
  rintro e w2 ⟨⟨b, rfl, hiff⟩, hw2⟩
  rw [hw2]
  clear hw2
  cases b
  case false =>
    go_wp2_with fail
    refine (awake_any (unhide HC) _).mono ?_
    rintro e w3 ⟨rfl, hb⟩
    have HB2 := hide ((unhide HB1).trans (hb.mono (unhide HB1).size))
    clear hb
    go_wp2_with fail
    go_ret
    exact ⟨rfl, unhide HB2⟩
  have HFW := hide (hiff.1 rfl)
  clear hiff
  by_cases h2k : n2 > 2000
  · have g2 : (n2 : Int) > 2000 := by omega
    go_wp2_with fail
    refine (awake_any (unhide HC) _).mono ?_
    rintro e w3 ⟨rfl, hb⟩
    have HB2 := hide ((unhide HB1).trans (hb.mono (unhide HB1).size))
    clear hb
    go_wp2_with fail
    go_ret
    exact ⟨rfl, unhide HB2⟩
  have g2 : ¬ (n2 : Int) > 2000 := by omega
  have hPL : (bputs l).length ≤ 60220 := by
    have h1 := bputs_few (l := l)
    have h3 := unhide HFW
    omega
  have HPL := hide hPL
  obtain ⟨pa, pc, ep, _⟩ := (unhide HV1).form
  obtain ⟨NP, hNP⟩ : ∃ NP, NP = (bputs l).length := ⟨_, rfl⟩
  rw [← hNP] at ep hPL
  subst ep
  have HNP := hide hNP
  clear hNP
  go_wp2_with fail
  refine (low_anew _ (bputs l) _ (unhide HV1) (by have := unhide HPL; omega)).mono ?_
  rintro e w3 ⟨v3, rfl, hF3⟩
  have HO3 := hide (hF3.own (Below.refl _ w1))
  have HU3 := hide (((unhide H2).later (unhide HB1)).later hF3.1.2.2)
  clear hF3
  go_wp2_with (at_builtin; refine wpList_append_bytes _ rfl _ _ 23 rfl 5 ti (.int .u8 0) Try.underlying23 hti hz0 hz1 hz2 rfl _ (bputs l) rfl (unhide HO3).own _ more rfl (unhide HU3) (by have := unhide HPL; have := unhide HL2; omega) ?_)
  rintro v4 w4 r1 r2 r3
  have HO4 : Hid (Own w1 v4 (bputs l ++ more) w4) := (unhide HO3).grown (by simpa using r1) r2 r3
  clear r1 r2 r3 HO3 HU3
  obtain ⟨a4, c4, e4, _⟩ := (bytes_of_owns (unhide HO4).own).form
  obtain ⟨n4, hn4⟩ : ∃ n4, n4 = (bputs l ++ more).length := ⟨_, rfl⟩
  rw [← hn4] at e4
  subst e4
  have HN4 : Hid (n4 ≤ 1048576) := by show _ ≤ _; rw [hn4, List.length_append]; have := unhide HPL; have := unhide HL2; omega
  clear hn4
  have HB4 : Hid (Below w.heap.size w w4) := (unhide HB1).trans ((unhide HO4).bb.mono (unhide HB1).size)
  have HV4 := hide (bytes_of_owns (unhide HO4).own)
  clear HO4 HB1
  go_wp2_with fail
  refine ((unhide HC).scan a4 n4 c4 _ _ (unhide HV4) (unhide HN4)).mono ?_
  rintro e w5 ⟨v5, bs5, m5, x5, rfl, hS5, hB5, hb5⟩
  have HB5 : Hid (Below w.heap.size w w5) := (unhide HB4).trans (hb5.mono (unhide HB4).size)
  have HS5 := hide hS5
  have HA5 := hide hB5
  clear hS5 hB5 hb5 HB4 HV4 HV1
  go_wp2_with fail
  refine ((unhide HC).scan a2 n2 c2 more _ ((unhide H2).later (unhide HB5)) (by omega)).mono ?_
  rintro e w6 ⟨v6, bs6, m6, x6, rfl, hS6, hB6, hb6⟩
  obtain ⟨rfl, rfl, rfl⟩ := (unhide HS5).same (scan_behind (unhide HRT) hS6)
  have HB6 : Hid (Below w.heap.size w w6) := (unhide HB5).trans (hb6.mono (unhide HB5).size)
  have HA6 := hide ((unhide HA5).later hb6)
  have HR6 := hide hB6
  have HF6 := hide hS6.few
  have HM6 : Hid (m6 ≤ n2) := by have := hS6.most; rw [unhide HL2] at this; exact this
  have HF5 := hide (unhide HS5).few
  have HLL := hide ((unhide HH).later (unhide HB6))
  clear hS6 hB6 hb6 HB5 HA5 HS5
  obtain ⟨a6, c6, e6, _⟩ := (unhide HR6).form
  obtain ⟨n6, hn6⟩ : ∃ n6, n6 = bs6.length := ⟨_, rfl⟩
  rw [← hn6] at e6
  subst e6
  have HN6 := hide hn6
  clear hn6
  obtain ⟨a5, c5, e5, _⟩ := (unhide HA6).form
  obtain ⟨n5, hn5⟩ : ∃ n5, n5 = (l ++ bs6).length := ⟨_, rfl⟩
  rw [← hn5] at e5
  subst e5
  have HN5 := hide hn5
  clear hn5
  have HHO := hide (HeadsO.lit RowsAt 22 w6)
  have HX6 : Hid (([] : List (List (List UInt8))).length + l.length ≤ 4194304) := by show _ ≤ _; rw [List.length_nil, unhide HN]; omega
  rw [← unhide HNP]
  go_wp2_with (at_builtin; refine wpList_append_heads rfl _ _ 33 22 rfl Try.underlying33 infoRows0 (fun u y h => rows_one h) _ [] rfl (unhide HHO) ua n uc l rfl (unhide HLL) (unhide HX6) ?_)
  rintro v7 w7 hO7
  have HO7 := hide hO7
  have HX7 : Hid (([] ++ l).length + bs6.length ≤ 4194304) := by show _ ≤ _; rw [List.nil_append, unhide HN]; have := (unhide HF6).2; have := unhide HL2; omega
  clear hO7 HHO HX6
  go_wp2_with (at_builtin; refine wpList_append_heads rfl _ _ 33 22 rfl Try.underlying33 infoRows0 (fun u y h => rows_one h) _ ([] ++ l) rfl (unhide HO7) a6 n6 c6 bs6 rfl (unhide HR6) (unhide HX7) ?_)
  rintro v8 w8 hO8
  have HA8 := hide ((unhide HA6).later hO8.bb)
  have HB8 : Hid (Below w.heap.size w w8) := (unhide HB6).trans (hO8.bb.mono (unhide HB6).size)
  have HL8 : Hid (BatchesAt w8 v8 (l ++ bs6)) := hO8.listAt (fun h hb => RowsAt.later h hb)
  obtain ⟨a8, c8, e8⟩ := hO8.form
  rw [← unhide HN5] at e8
  subst e8
  clear hO8 HO7 HX7 HA6 HB6 HR6 HLL
  go_wp2_with fail
  refine (low_sameBatches _ _ (l ++ bs6) (l ++ bs6) _ (unhide HA8) (unhide HL8) (by have h5 := (unhide HF5).2; simp only [List.length_append] at h5 ⊢; have h6 := unhide HPL; have h7 := unhide HL2; omega) (fun x hx => by have := (unhide HF5).1 x hx; omega)).mono ?_
  rintro e w9 ⟨rfl, hb9⟩
  rw [show decide (l ++ bs6 = l ++ bs6) = true from decide_eq_true rfl]
  have HB9 : Hid (Below w.heap.size w w9) := (unhide HB8).trans (hb9.mono (unhide HB8).size)
  clear hb9 HB8 HA8 HL8
  have hm6 : m6 ≤ 2000 := by have := unhide HM6; omega
  go_wp2_with fail
  refine (awake_any (unhide HC) _).mono ?_
  rintro e w10 ⟨rfl, hb⟩
  have HB10 := hide ((unhide HB9).trans (hb.mono (unhide HB9).size))
  clear hb HB9
  go_wp2_with fail
  go_ret
  exact ⟨rfl, unhide HB10⟩
end
end Go.Proofs.Ytbbglgfgelnncaa
