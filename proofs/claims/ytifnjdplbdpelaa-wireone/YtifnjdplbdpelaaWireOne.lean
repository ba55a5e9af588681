/- WireOne: the walk. No statement of the seat is proved here. -/
import Derived.Test.YtifnjdplbdpelaaWireFar
import Derived.Test.YtifnjdplbdpelaaGenWant
namespace Go.Proofs.Ytifnjdplbdpelaa
open Go.RowKit

set_option maxRecDepth 100000 in
set_option maxHeartbeats 8000000 in
theorem wireOne_any (hc : WireOk) (a : Option Addr) (n c : Nat) (bs : List UInt8) (w : World) (h : Bytes w (.slice a n c) bs) : Calls Try.prog 5 #[.slice a n c] w fun e w' => e = .returned (.bool true) ∧ Below w.heap.size w w' := by
  obtain ⟨hl, hnc⟩ := bytes_len h
  have HC := hide hc
  have HAW := hide (wAwake_any hc)
  by_cases h400 : n > 400
  · have h400' : (n : Int) > 400 := by omega
    clear h hc hl hnc h400
    go_enter Try.func5, Try.ntmps5
    go_wp2_with fail
    refine (unhide HAW _).mono ?_
    rintro e w' ⟨rfl, hb⟩
    have HB := hide hb
    clear hb
    go_wp2
    go_ret
    exact ⟨rfl, unhide HB⟩
  · have h400' : ¬ (n : Int) > 400 := by omega
    obtain ⟨ti, hti, hz0, hz1, hz2⟩ := infoByte
    have HH := hide h
    have HL := hide hl
    have HN : Hid (n ≤ 400) := by show _ ≤ _; omega
    clear h hc hl hnc h400
    go_enter Try.func5, Try.ntmps5
    go_wp2_with fail
    refine ((unhide HC).takeNum a n c bs _ (unhide HH) (by have := unhide HN; omega)).mono ?_
    rintro e w1 ⟨ht, hb1⟩
    have HB1 := hide hb1
    clear hb1
    rcases ht with ⟨x, k, ra, rc, hr, hB, rfl⟩ | ⟨_, rfl⟩
    · have HR := hide hr
      have hkl := hr.le
      rw [unhide HL] at hkl
      have HKL := hide hkl
      have HBR := hide hB
      clear hr hB hkl
      go_wp2_with fail
      refine ((unhide HC).num (.slice none 0 0) [] x _ (unhide HR).inr (.inl ⟨rfl, rfl⟩) (by simp)).mono ?_
      rintro e w2 ⟨v, rfl, hO⟩
      rw [List.nil_append] at hO
      have HO := hide hO
      have HBR2 := hide ((unhide HBR).laterW2 hO.bb)
      have HB2 := hide ((unhide HB1).trans (hO.bb.mono (unhide HB1).size))
      have HDL : Hid ((numB x).length + (bs.drop k).length ≤ 140737488355328) := by show _ ≤ _; rw [List.length_drop, unhide HL, ← (unhide HR).len]; have := unhide HN; have := unhide HKL; omega
      clear hO HBR
      go_wp2_with (at_builtin; refine wpList_append_bytes_w _ (by simp [Region.wanted, yielded]) _ _ 22 rfl 5 ti (.int .u8 0) Try.underlying22 hti hz0 hz1 hz2 rfl _ _ rfl (unhide HO).own _ (bs.drop k) rfl (unhide HBR2) (unhide HDL) ?_)
      rintro v' w3 r1 r2 r3
      have HO3 := hide ((unhide HO).grown (cs := numB x ++ bs.drop k) (by simpa using r1) r2 (by simpa using r3))
      clear r1 r2 r3
      rw [← (unhide HR).eq] at HO3
      have HX3 := hide ((unhide HO3).bb)
      have HB3 := hide ((unhide HB1).trans ((unhide HX3).mono (unhide HB1).size))
      have HHX := hide ((unhide HH).laterW2 (unhide HB3))
      go_wp2_with fail
      refine (wSame_true v' _ bs _ (unhide HO3).bytes (unhide HHX)).mono ?_
      rintro e w4 ⟨rfl, hw⟩
      rw [hw]
      clear hw w4
      clear HO HBR2 HB2 HDL HO3 HX3 HB1 HKL HR HHX
      go_wp2_with fail
      have HBX := HB3
      clear HB3
      generalize w3 = wX at *
      have HHX := hide ((unhide HH).laterW2 (unhide HBX))
      refine ((unhide HC).takeText a n c bs 400 _ (unhide HHX) (by have := unhide HN; omega) (by unfold InR; omega)).mono ?_
      rintro e w5 ⟨ht, hb5⟩
      have HB5 := hide ((unhide HBX).trans (hb5.mono (unhide HBX).size))
      clear hb5 HHX HBX
      rcases ht with ⟨s, k, ra, rc, hr, hB, rfl⟩ | ⟨_, rfl⟩
      · have HR := hide hr
        have hkl := hr.le
        rw [unhide HL] at hkl
        have HKL := hide hkl
        have HBR := hide hB
        clear hr hB hkl
        go_wp2_with fail
        refine ((unhide HC).text (.slice none 0 0) [] s _ (.inl ⟨rfl, rfl⟩) (by simp) (by have := unhide HKL; have := unhide HN; omega)).mono ?_
        rintro e w6 ⟨v, rfl, hO⟩
        rw [List.nil_append] at hO
        have HO := hide hO
        have HBR2 := hide ((unhide HBR).laterW2 hO.bb)
        have HDL : Hid ((textB s).length + (bs.drop (k + s.length)).length ≤ 140737488355328) := by show _ ≤ _; rw [List.length_drop, unhide HL, textB, List.length_append, ← (unhide HR).num.len]; have := unhide HN; have := unhide HKL; omega
        clear hO HBR
        go_wp2_with (at_builtin; refine wpList_append_bytes_w _ (by simp [Region.wanted, yielded]) _ _ 22 rfl 5 ti (.int .u8 0) Try.underlying22 hti hz0 hz1 hz2 rfl _ _ rfl (unhide HO).own _ (bs.drop (k + s.length)) rfl (unhide HBR2) (unhide HDL) ?_)
        rintro v' w7 r1 r2 r3
        have HO3 := hide ((unhide HO).grown (cs := textB s ++ bs.drop (k + s.length)) (by simpa using r1) r2 (by simpa using r3))
        clear r1 r2 r3
        rw [← (unhide HR).whole] at HO3
        have HX3 := hide ((unhide HO3).bb)
        have HB3 := hide ((unhide HB5).trans ((unhide HX3).mono (unhide HB5).size))
        have HHX := hide ((unhide HH).laterW2 (unhide HB3))
        go_wp2_with fail
        refine (wSame_true v' _ bs _ (unhide HO3).bytes (unhide HHX)).mono ?_
        rintro e w8 ⟨rfl, hw⟩
        rw [hw]
        clear hw w8 HO HBR2 HDL HO3 HX3 HB5 HKL HR HHX
        go_wp2_with fail
        refine (unhide HAW _).mono ?_
        rintro e w9 ⟨rfl, hb9⟩
        have HB9 := hide ((unhide HB3).trans (hb9.mono (unhide HB3).size))
        clear hb9
        go_wp2_with fail
        go_ret
        exact ⟨rfl, unhide HB9⟩
      · go_wp2_with fail
        refine (unhide HAW _).mono ?_
        rintro e w9 ⟨rfl, hb9⟩
        have HB9 := hide ((unhide HB5).trans (hb9.mono (unhide HB5).size))
        clear hb9
        go_wp2_with fail
        go_ret
        exact ⟨rfl, unhide HB9⟩
    · go_wp2_with fail
      have HBX := HB1
      clear HB1
      generalize w1 = wX at *
      have HHX := hide ((unhide HH).laterW2 (unhide HBX))
      refine ((unhide HC).takeText a n c bs 400 _ (unhide HHX) (by have := unhide HN; omega) (by unfold InR; omega)).mono ?_
      rintro e w5 ⟨ht, hb5⟩
      have HB5 := hide ((unhide HBX).trans (hb5.mono (unhide HBX).size))
      clear hb5 HHX HBX
      rcases ht with ⟨s, k, ra, rc, hr, hB, rfl⟩ | ⟨_, rfl⟩
      · have HR := hide hr
        have hkl := hr.le
        rw [unhide HL] at hkl
        have HKL := hide hkl
        have HBR := hide hB
        clear hr hB hkl
        go_wp2_with fail
        refine ((unhide HC).text (.slice none 0 0) [] s _ (.inl ⟨rfl, rfl⟩) (by simp) (by have := unhide HKL; have := unhide HN; omega)).mono ?_
        rintro e w6 ⟨v, rfl, hO⟩
        rw [List.nil_append] at hO
        have HO := hide hO
        have HBR2 := hide ((unhide HBR).laterW2 hO.bb)
        have HDL : Hid ((textB s).length + (bs.drop (k + s.length)).length ≤ 140737488355328) := by show _ ≤ _; rw [List.length_drop, unhide HL, textB, List.length_append, ← (unhide HR).num.len]; have := unhide HN; have := unhide HKL; omega
        clear hO HBR
        go_wp2_with (at_builtin; refine wpList_append_bytes_w _ (by simp [Region.wanted, yielded]) _ _ 22 rfl 5 ti (.int .u8 0) Try.underlying22 hti hz0 hz1 hz2 rfl _ _ rfl (unhide HO).own _ (bs.drop (k + s.length)) rfl (unhide HBR2) (unhide HDL) ?_)
        rintro v' w7 r1 r2 r3
        have HO3 := hide ((unhide HO).grown (cs := textB s ++ bs.drop (k + s.length)) (by simpa using r1) r2 (by simpa using r3))
        clear r1 r2 r3
        rw [← (unhide HR).whole] at HO3
        have HX3 := hide ((unhide HO3).bb)
        have HB3 := hide ((unhide HB5).trans ((unhide HX3).mono (unhide HB5).size))
        have HHX := hide ((unhide HH).laterW2 (unhide HB3))
        go_wp2_with fail
        refine (wSame_true v' _ bs _ (unhide HO3).bytes (unhide HHX)).mono ?_
        rintro e w8 ⟨rfl, hw⟩
        rw [hw]
        clear hw w8 HO HBR2 HDL HO3 HX3 HB5 HKL HR HHX
        go_wp2_with fail
        refine (unhide HAW _).mono ?_
        rintro e w9 ⟨rfl, hb9⟩
        have HB9 := hide ((unhide HB3).trans (hb9.mono (unhide HB3).size))
        clear hb9
        go_wp2_with fail
        go_ret
        exact ⟨rfl, unhide HB9⟩
      · go_wp2_with fail
        refine (unhide HAW _).mono ?_
        rintro e w9 ⟨rfl, hb9⟩
        have HB9 := hide ((unhide HB5).trans (hb9.mono (unhide HB5).size))
        clear hb9
        go_wp2_with fail
        go_ret
        exact ⟨rfl, unhide HB9⟩
end Go.Proofs.Ytifnjdplbdpelaa
