/- JournalFormat, walked, where what comes in is not too great. -/
import Derived.Test.YtflfiobicapopaaBase14
import Derived.Test.YtflfiobicapopaaBase06
namespace Go.Proofs.Ytflfiobicapopaa
open Go.RowKit

theorem bput_lenJ (rows : List (List UInt8)) : (bput rows).length = 9 * rows.length + total rows + 11 := by
  have h : ∀ rs : List (List UInt8), (puts (rs.map dat)).length = 9 * rs.length + total rs := fun rs => by
    induction rs with
    | nil => rfl
    | cons r rs ih =>
      rw [List.map_cons, puts_cons, List.length_append, put_len, ih, List.length_cons]
      show 9 + r.length + _ = _
      simp only [total]; omega
  unfold bput recsOf
  rw [puts_snoc, List.length_append, put_len, h]
  show _ + (9 + 2) = _
  omega

set_option maxRecDepth 100000 in
set_option maxHeartbeats 8000000 in
theorem journalFormat_any (ls : List (List (List UInt8))) (ua : Option Addr) (n uc at' : Nat) (w : World) (h : BatchesAt w (.slice ua n uc) ls) (hn : ls.length = n) (hl : n ≤ 1048576) (hw : weight ls ≤ 1048576) (ha : at' ≤ 255) :
    Calls Try.prog 6 #[.slice ua n uc, .int .u8 ((at' : Nat) : Int)] w fun x w' => x = .returned (.bool true) ∧ Below w.heap.size w w' := by
  have HH := hide h
  have HN := hide hn
  have HW := hide hw
  have HR : Hid (∀ x ∈ ls, x.length ≤ 140737488355328) := fun x hx => by have := weight_mem hx; omega
  clear h hn hw
  go_enter Try.func6, Try.ntmps6
  go_wp2_with fail
  refine (low_few _ ls _ (unhide HH) (by have := unhide HN; omega) (by have := unhide HW; omega) (unhide HR)).mono ?_
  rintro e w2 ⟨⟨b, rfl, hiff⟩, rfl⟩
  have HI := hide hiff
  clear hiff
  cases b
  case false =>
    go_wp2_with fail
    refine (jawake_any _).mono ?_
    rintro x W3 ⟨rfl, hb⟩
    have HB := hide hb
    clear hb
    go_wp2_with fail
    go_ret
    exact ⟨rfl, unhide HB⟩
  by_cases h8 : n ≤ 8
  · have h8' : ¬ (n : Int) > 8 := by omega
    have HW3 : Hid (weight ls ≤ 3000) := ((unhide HI).1 rfl).2
    clear HI
    go_wp2_with fail
    refine (made_any (Below.refl _ w2) 60000 (by decide) (by decide)).mono ?_
    rintro x W3 ⟨p, g, A0, rfl, hJ, hc, hp⟩
    have HJ0 := hide hJ
    have HC0 := hide hc
    have HP0 := hide hp
    clear hJ hc hp
    go_wp2_with fail
    go_loopw [36] (fun i W => ∃ j : Nat, j ≤ n ∧ i = .int .i64 j ∧ ∃ A l, Jr w2 W [] [] g p A ⟨2, 1, 0⟩ l ∧ A.calls = -1 ∧ A.cap = 60000 ∧ (bputs l).length ≤ 9 * weight (ls.take j) + 11 * j ∧ l.length ≤ j) (fun i _ => n - (intOf i).toNat)
    case atStart => exact ⟨0, by omega, rfl, A0, [], unhide HJ0, unhide HC0, unhide HP0, Nat.zero_le _, Nat.zero_le _⟩
    case round =>
      obtain ⟨j, hj, rfl, A, l, hJ, hc, hp, hb, hlj⟩ := hrel
      have HJ := hide hJ
      have HC := hide hc
      have HP := hide hp
      have HBL := hide hb
      have HLJ := hide hlj
      clear hJ hc hp hb hlj HJ0 HC0 HP0
      by_cases hlt : j < n
      · obtain ⟨rows, hx⟩ := some_get (xs := ls) (j := j) (by have := unhide HN; omega)
        obtain ⟨b1, o1, v1, e1, x1, x3⟩ := ((unhide HH).later (unhide HJ).kj.bb).at hx
        subst e1
        obtain ⟨d1, k1, ed1, _⟩ := x3.form
        subst ed1
        have i0 : (0 : Int) ≤ (j : Int) := by omega
        have i1 : (j : Int) < (n : Int) := by omega
        have X3 := hide x3
        have HXT : Hid ((bputs l).length + (bput rows).length ≤ 9 * weight (ls.take (j + 1)) + 11 * (j + 1) ∧ 9 * weight (ls.take (j + 1)) ≤ 27000) := by
          have h1 := weight_take ls hx
          have h2 := weight_le ls (j + 1)
          have h3 := unhide HW3
          have h4 := unhide HBL
          rw [bput_lenJ]
          constructor
          · omega
          · omega
        clear x3 hx
        generalize rows.length = rn at *
        go_wp2_with fail
        by_cases hbad : bputErr rows = 0
        · have ok := bputErr_zero.1 hbad
          refine (jrAppend_fit (unhide HJ) (unhide HC) _ rows (unhide X3) ok (by rw [unhide HP]; have := unhide HXT; omega)).mono ?_
          rintro x W4 ⟨B, rfl, hcap, hcalls, hJ4⟩
          have HJ4 := hide hJ4
          have HC4 := hide hcalls
          have HP4 := hide (hcap.trans (unhide HP))
          have HBL4 : Hid ((bputs (l ++ [rows])).length ≤ 9 * weight (ls.take (j + 1)) + 11 * (j + 1)) := by show _ ≤ _; rw [bputs_snoc, List.length_append]; exact (unhide HXT).1
          clear hJ4 hcalls hcap HJ HC HP X3 HXT HBL hbad x1 ok
          go_wp2_with fail
          exact ⟨⟨j + 1, by omega, by go_num, B, _, unhide HJ4, unhide HC4, unhide HP4, unhide HBL4, by rw [List.length_append, List.length_singleton]; have := unhide HLJ; omega⟩, by simp [intOf]; omega⟩
        · refine (jrAppend_bad (unhide HJ) _ rows (unhide X3) hbad).mono ?_
          rintro x W4 ⟨rfl, hJ4⟩
          have HJ4 := hide hJ4
          have HBL4 : Hid ((bputs l).length ≤ 9 * weight (ls.take (j + 1)) + 11 * (j + 1)) := by show _ ≤ _; have := (unhide HXT).1; omega
          have hor : bputErr rows = 34 ∨ bputErr rows = 31 := by
            unfold bputErr at hbad ⊢
            split
            · exact .inl rfl
            · split
              · rename_i h1 h2; rw [if_neg h1, if_pos h2] at hbad; exact (hbad rfl).elim
              · exact .inr rfl
          clear hJ4 HJ X3 HXT HBL hbad x1
          rcases hor with e | e
          all_goals
            rw [e]
            clear e
            go_wp2_with fail
            exact ⟨⟨j + 1, by omega, by go_num, A, l, unhide HJ4, unhide HC, unhide HP, unhide HBL4, by have := unhide HLJ; omega⟩, by simp [intOf]; omega⟩
      · have ej : n = j := by omega
        subst ej
        obtain ⟨c5, hc5⟩ : ∃ c5 : Nat, c5 = at' % 5 := ⟨_, rfl⟩
        have hcI : ((at' : Nat) : Int) % 5 = ((c5 : Nat) : Int) := by rw [hc5]; push_cast; rfl
        have hc5l : c5 < 5 := by omega
        clear hc5
        go_upto_region 13 with fail
        go_wp2_with fail
        rw [hcI]
        clear hcI
        refine (kjFuse (unhide HJ).noJ _ 0 (by omega)).mono ?_
        rintro x W4 ⟨rfl, hk⟩
        have HK4 := hide hk
        have HF := hide ((unhide HJ).run.fuse ((c5 : Nat) : Int) 0)
        clear hk HJ HC HP HBL
        obtain ⟨F, hF⟩ : ∃ F, fuD A ((c5 : Nat) : Int) 0 = F := ⟨_, rfl⟩
        rw [hF] at HK4 HF
        clear hF
        have HD := hide (format_math (unhide HF) (by decide))
        go_wp2_with fail
        refine (kjFormat (unhide HK4)).mono ?_
        rintro x W5 ⟨rfl, hk⟩
        have HK5 := hide hk
        have HFU := hide (unhide HF).full
        clear hk HK4 HF
        obtain ⟨E, hE⟩ : ∃ E, fmE F = E := ⟨_, rfl⟩
        obtain ⟨B, hB⟩ : ∃ B, fmD F = B := ⟨_, rfl⟩
        rw [hE, hB] at HD
        rw [hB] at HK5
        rw [hE]
        clear hE hB
        go_wp2_with fail
        refine (kjFuse (unhide HK5) (-1) 0 (by decide)).mono ?_
        rintro x W6 ⟨rfl, hk⟩
        have HK6 := hide hk
        clear hk HK5
        by_cases hE : E = 0
        · subst hE
          have HRB := hide ((unhide HD).ok rfl)
          have HR2 := hide ((unhide HRB).fuse (-1) 0)
          have HC2 := hide (fuse_calls (unhide HRB).live (-1) 0)
          rw [show fmH (HeadD.mk 2 1 0).s = ⟨3, 0, 0⟩ from next_of (by decide)] at HR2
          clear HD HRB HFU
          go_wp2_with fail
          refine (openCalm (unhide HK6) (unhide HR2).st (unhide HC2) (by decide)).mono ?_
          rintro x W7 ⟨B3, k, va, vc, rfl, _, _, hJ⟩
          rw [later_of (by decide) (by decide)] at hJ
          have HJ7 := hide hJ
          have hfl := head_field1
          clear hJ HK6 HR2 HC2
          go_wp2_with fail
          refine (jrHead (unhide HJ7)).mono ?_
          rintro x W8 ⟨rfl, hJ⟩
          have HJ8 := hide hJ
          clear hJ HJ7
          go_wp2_with fail
          refine (jrSize (unhide HJ8)).mono ?_
          rintro x W9 ⟨rfl, hJ⟩
          rw [show (((bputs []).length : Nat) : Int) = 0 from rfl]
          have HB9 := hide hJ.kj.bb
          clear hJ HJ8 hfl
          go_wp2_with fail
          refine (jawake_any _).mono ?_
          rintro x W10 ⟨rfl, hb⟩
          have HB10 := hide ((unhide HB9).trans (hb.mono (unhide HB9).size))
          clear hb HB9
          go_wp2_with fail
          go_ret
          exact ⟨rfl, unhide HB10⟩
        · obtain ⟨e3, hdead, hback⟩ := (unhide HD).ko hE
          subst e3
          have hfu : fuD B (-1) 0 = B := by simp [fuD, hdead]
          rw [hfu] at HK6
          have HBK := hide (hback (unhide HFU))
          clear hfu hback hdead HD HFU hE
          go_wp2_with fail
          refine (kjCrash (unhide HK6) 0 0 0 0).mono ?_
          rintro x W7 ⟨rfl, hk⟩
          obtain ⟨h', l', ⟨hh, hl'⟩, hS, hFr⟩ := unhide HBK 0 0 0 0
          have HK7 := hide hk
          have HS := hide hS
          have HFR := hide hFr
          have HSB : Hid (h'.s + 2 < 18446744073709551616) := by
            show _ < _
            rcases hh with e | e
            · rw [e]; decide
            · rw [e, show fmH (HeadD.mk 2 1 0).s = ⟨3, 0, 0⟩ from next_of (by decide)]; decide
          have HLL : Hid (l'.length ≤ n) := by
            show _ ≤ _
            rcases hl' with e | e
            · rw [e]; exact unhide HLJ
            · rw [e]; exact Nat.zero_le _
          clear hk hh hl' hS hFr HK6 HBK
          go_wp2_with fail
          refine (openCalm (unhide HK7) (unhide HS) (unhide HFR).calls (unhide HSB)).mono ?_
          rintro x W8 ⟨B3, k, va, vc, rfl, _, _, hJ⟩
          have HB8 := hide hJ.kj.bb
          clear hJ HK7 HS HFR HSB
          obtain ⟨ln, hln⟩ : ∃ ln, l'.length = ln := ⟨_, rfl⟩
          rw [hln] at HLL ⊢
          have hle : (ln : Int) ≤ (n : Int) := by have := unhide HLL; omega
          clear hln HLL
          go_wp2_with fail
          refine (jawake_any _).mono ?_
          rintro x W10 ⟨rfl, hb⟩
          have HB10 := hide ((unhide HB8).trans (hb.mono (unhide HB8).size))
          clear hb HB8
          go_wp2_with fail
          go_ret
          exact ⟨rfl, unhide HB10⟩
  · have h8' : (n : Int) > 8 := by omega
    go_wp2_with fail
    refine (jawake_any _).mono ?_
    rintro x W3 ⟨rfl, hb⟩
    have HB := hide hb
    clear hb
    go_wp2_with fail
    go_ret
    exact ⟨rfl, unhide HB⟩
end Go.Proofs.Ytflfiobicapopaa
