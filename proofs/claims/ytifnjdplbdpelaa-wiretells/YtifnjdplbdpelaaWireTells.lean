/- WireTells: the walk. No statement of the seat is proved here. -/
import Derived.Test.YtifnjdplbdpelaaWireFar
import Derived.Test.YtifnjdplbdpelaaWireRefS
namespace Go.Proofs.Ytifnjdplbdpelaa
open Go.RowKit

theorem ref_num {bs : List UInt8} {x : Int} {k : Nat} {e : Ending} (h : RefNum bs e) (hr : Reads bs x k) : e = .returned (.tuple #[.int .i64 x, .int .i64 ((k : Nat) : Int)]) := by
  rcases h with ⟨x', k', h', rfl⟩ | ⟨hN, _⟩
  · obtain ⟨rfl, rfl⟩ := h'.same hr
    rfl
  · exact absurd hr (hN _ _)
theorem ref_noNum {bs : List UInt8} {e : Ending} (h : RefNum bs e) (hN : NoNum bs) : e = .returned (.tuple #[.int .i64 0, .int .i64 0]) := by
  rcases h with ⟨x', k', h', rfl⟩ | ⟨_, rfl⟩
  · exact absurd h' (hN _ _)
  · rfl
theorem ref_text {bs : List UInt8} {most : Int} {s : List UInt8} {k : Nat} {e : Ending} (h : RefText bs most e) (hr : ReadsT bs most s k) : e = .returned (.tuple #[.string ⟨s.toArray⟩, .int .i64 ((k + s.length : Nat) : Int), .bool true]) := by
  rcases h with ⟨x', k', h', rfl⟩ | ⟨hN, _⟩
  · obtain ⟨rfl, rfl⟩ := h'.same hr
    rfl
  · exact absurd hr (hN _ _)
theorem ref_noText {bs : List UInt8} {most : Int} {e : Ending} (h : RefText bs most e) (hN : NoText bs most) : e = .returned (.tuple #[.string ⟨#[]⟩, .int .i64 0, .bool false]) := by
  rcases h with ⟨x', k', h', rfl⟩ | ⟨_, rfl⟩
  · exact absurd h' (hN _ _)
  · rfl

set_option maxRecDepth 100000 in
set_option maxHeartbeats 8000000 in
theorem wireTells_any (hc : WireOk) (x0 most : Int) (s0 : List UInt8) (a : Option Addr) (n c : Nat) (bs : List UInt8) (w : World) (h : Bytes w (.slice a n c) bs) (hx0 : InR x0) (hmost : InR most) : Calls Try.prog 3 #[.int .i64 x0, .string ⟨s0.toArray⟩, .slice a n c, .int .i64 most] w fun e w' => e = .returned (.bool true) ∧ Below w.heap.size w w' := by
  obtain ⟨hl, hnc⟩ := bytes_len h
  have HC := hide hc
  have HAW := hide (wAwake_any hc)
  have hsz : (⟨s0.toArray⟩ : ByteArray).size = s0.length := by simp [ByteArray.size]
  obtain ⟨z0, hz0⟩ : ∃ z : ByteArray, z = ⟨s0.toArray⟩ := ⟨_, rfl⟩
  rw [← hz0] at hsz ⊢
  obtain ⟨m0, hm0⟩ : ∃ m0, m0 = s0.length := ⟨_, rfl⟩
  rw [← hm0] at hsz
  have HZ0 := hide hz0
  have HM0 := hide hm0
  have HL := hide hl
  clear hz0 hm0
  by_cases hbig : m0 > 300
  · have g1 : ((m0 : Nat) : Int) > 300 := by omega
    clear h hc hl hnc hbig hx0 hmost
    go_enter Try.func3, Try.ntmps3
    go_wp2_with fail
    refine (unhide HAW _).mono ?_
    rintro e w' ⟨rfl, hb⟩
    have HB := hide hb
    clear hb
    go_wp2
    go_ret
    exact ⟨rfl, unhide HB⟩
  have g1 : ¬ ((m0 : Nat) : Int) > 300 := by omega
  by_cases h400 : n > 400
  · have g2 : ((n : Nat) : Int) > 400 := by omega
    clear h hc hl hnc hbig hx0 hmost h400
    go_enter Try.func3, Try.ntmps3
    go_wp2_with fail
    refine (unhide HAW _).mono ?_
    rintro e w' ⟨rfl, hb⟩
    have HB := hide hb
    clear hb
    go_wp2
    go_ret
    exact ⟨rfl, unhide HB⟩
  have g2 : ¬ ((n : Nat) : Int) > 400 := by omega
  have HH := hide h
  have HN : Hid (n ≤ 400) := by show _ ≤ _; omega
  have HM3 : Hid (m0 ≤ 300) := by show _ ≤ _; omega
  have HX0 := hide hx0
  have HMO := hide hmost
  clear h hc hl hnc hbig h400 hx0 hmost
  go_enter Try.func3, Try.ntmps3
  go_wp2_with fail
  refine ((unhide HC).takeNum a n c bs _ (unhide HH) (by have := unhide HN; omega)).mono ?_
  rintro e w1 ⟨ht, hb1⟩
  have HB1 := hide hb1
  have HH1 := hide ((unhide HH).laterW2 hb1)
  clear hb1
  rcases ht with ⟨x, k, ra, rc, hr, hB, rfl⟩ | ⟨hNo, rfl⟩
  · have HR := hide hr
    have hkl := hr.le
    rw [unhide HL] at hkl
    have hk0 := hr.pos
    have g3 : ((k : Nat) : Int) > 0 := by omega
    have g3n : 0 < k := hk0
    have HKL := hide hkl
    have HBR := hide hB
    clear hr hB hk0
    obtain ⟨sa, sc, hS, q, q'⟩ := slice_from (unhide HH1) hkl
    have HS := hide hS
    clear hS hkl
    go_wp2_with fail
    refine (wRefTakeNum_any (.slice a n c) bs _ (unhide HH1) (by have := unhide HN; have := unhide HL; omega)).mono ?_
    rintro e w2 ⟨ht, hw⟩
    rw [hw]
    clear hw w2
    obtain rfl := ref_num ht (unhide HR)
    clear ht
    go_wp2_with fail
    refine (wSame_true _ _ (bs.drop k) _ (unhide HBR) (unhide HS)).mono ?_
    rintro e w2 ⟨rfl, hw⟩
    rw [hw]
    clear hw w2 HS HBR g3 g3n q q'
    go_wp2_with fail
    refine ((unhide HC).takeText a n c bs most _ (unhide HH1) (by have := unhide HN; omega) (unhide HMO)).mono ?_
    rintro e w5 ⟨ht, hb5⟩
    have HB5 := hide ((unhide HB1).trans (hb5.mono (unhide HB1).size))
    have HH5 := hide ((unhide HH1).laterW2 hb5)
    clear hb5 HH1 HB1
    rcases ht with ⟨t, j, ta, tc, hr, hB, rfl⟩ | ⟨hNo, rfl⟩
    · have HRT := hide hr
      have hjl := hr.le
      rw [unhide HL] at hjl
      have HJL := hide hjl
      have HBT := hide hB
      obtain ⟨J, hJ⟩ : ∃ J, J = j + t.length := ⟨_, rfl⟩
      rw [← hJ] at hjl hB
      have HJ := hide hJ
      clear hr hJ HBT
      have HBT := hide hB
      clear hB
      obtain ⟨sa2, sc2, hS, q, q'⟩ := slice_from (unhide HH5) hjl
      have HS := hide hS
      clear hS
      go_wp2_with fail
      refine (wRefTakeText_any (.slice a n c) bs most _ (unhide HH5) (by have := unhide HN; have := unhide HL; omega) (unhide HMO)).mono ?_
      rintro e w6 ⟨ht, hw⟩
      rw [hw]
      clear hw w6
      obtain rfl := ref_text ht (unhide HRT)
      rw [← unhide HJ]
      clear ht
      generalize (⟨t.toArray⟩ : ByteArray) = zt at *
      go_wp2_with fail
      refine (wSame_true _ _ (bs.drop J) _ (unhide HBT) (unhide HS)).mono ?_
      rintro e w6 ⟨rfl, hw⟩
      rw [hw]
      clear hw w6 HS HBT q q' hjl
      go_wp2_with fail
      refine ((unhide HC).num (.slice none 0 0) [] x0 _ (unhide HX0) (.inl ⟨rfl, rfl⟩) (by simp)).mono ?_
      rintro e w7 ⟨v7, rfl, hO⟩
      rw [List.nil_append] at hO
      have HV7 := hide hO.bytes
      have HB7 := hide ((unhide HB5).trans (hO.bb.mono (unhide HB5).size))
      clear hO
      go_wp2_with fail
      refine (wRefNum_any x0 (unhide HX0) _).mono ?_
      rintro e w8 ⟨v8, rfl, hO⟩
      have HV8 := hide hO.bytes
      have HV7b := hide ((unhide HV7).laterW2 hO.bb)
      have HB8 := hide ((unhide HB7).trans (hO.bb.mono (unhide HB7).size))
      clear hO
      go_wp2_with fail
      refine (wSame_true _ _ (numB x0) _ (unhide HV7b) (unhide HV8)).mono ?_
      rintro e w9 ⟨rfl, hw⟩
      rw [hw]
      clear hw w9 HV7 HV7b HV8 HB7
      go_wp2_with fail
      rw [unhide HZ0]
      refine ((unhide HC).text (.slice none 0 0) [] s0 _ (.inl ⟨rfl, rfl⟩) (by simp) (by have := unhide HM0; have := unhide HM3; omega)).mono ?_
      rintro e w10 ⟨v10, rfl, hO⟩
      rw [← unhide HZ0]
      rw [List.nil_append] at hO
      have HV10 := hide hO.bytes
      have HB10 := hide ((unhide HB8).trans (hO.bb.mono (unhide HB8).size))
      clear hO
      go_wp2_with fail
      rw [unhide HZ0]
      refine (wRefText_any s0 (by have := unhide HM0; have := unhide HM3; omega) _).mono ?_
      rintro e w11 ⟨v11, rfl, hO⟩
      rw [← unhide HZ0]
      have HV11 := hide hO.bytes
      have HV10b := hide ((unhide HV10).laterW2 hO.bb)
      have HB11 := hide ((unhide HB10).trans (hO.bb.mono (unhide HB10).size))
      clear hO
      go_wp2_with fail
      refine (wSame_true _ _ (textB s0) _ (unhide HV10b) (unhide HV11)).mono ?_
      rintro e w12 ⟨rfl, hw⟩
      rw [hw]
      clear hw w12 HV10 HV10b HV11 HB10
      go_wp2_with fail
      refine ((unhide HC).size x0 _ (unhide HX0)).mono ?_
      rintro e w13 ⟨rfl, hb⟩
      have HB13 := hide ((unhide HB11).trans (hb.mono (unhide HB11).size))
      clear hb
      go_wp2_with fail
      refine (wRefNum_any x0 (unhide HX0) _).mono ?_
      rintro e w14 ⟨v14, rfl, hO⟩
      obtain ⟨ua, uc, rfl, _⟩ := hO.bytes.form
      have HB14 := hide ((unhide HB13).trans (hO.bb.mono (unhide HB13).size))
      clear hO
      go_wp2_with fail
      refine (unhide HAW _).mono ?_
      rintro e w15 ⟨rfl, hb⟩
      have HB15 := hide ((unhide HB14).trans (hb.mono (unhide HB14).size))
      clear hb
      go_wp2_with fail
      go_ret
      exact ⟨rfl, unhide HB15⟩
    · have HNT := hide hNo
      clear hNo
      go_wp2_with fail
      refine (wRefTakeText_any (.slice a n c) bs most _ (unhide HH5) (by have := unhide HN; have := unhide HL; omega) (unhide HMO)).mono ?_
      rintro e w6 ⟨ht, hw⟩
      rw [hw]
      clear hw w6
      obtain rfl := ref_noText ht (unhide HNT)
      clear ht
      go_wp2_with fail
      refine ((unhide HC).num (.slice none 0 0) [] x0 _ (unhide HX0) (.inl ⟨rfl, rfl⟩) (by simp)).mono ?_
      rintro e w7 ⟨v7, rfl, hO⟩
      rw [List.nil_append] at hO
      have HV7 := hide hO.bytes
      have HB7 := hide ((unhide HB5).trans (hO.bb.mono (unhide HB5).size))
      clear hO
      go_wp2_with fail
      refine (wRefNum_any x0 (unhide HX0) _).mono ?_
      rintro e w8 ⟨v8, rfl, hO⟩
      have HV8 := hide hO.bytes
      have HV7b := hide ((unhide HV7).laterW2 hO.bb)
      have HB8 := hide ((unhide HB7).trans (hO.bb.mono (unhide HB7).size))
      clear hO
      go_wp2_with fail
      refine (wSame_true _ _ (numB x0) _ (unhide HV7b) (unhide HV8)).mono ?_
      rintro e w9 ⟨rfl, hw⟩
      rw [hw]
      clear hw w9 HV7 HV7b HV8 HB7
      go_wp2_with fail
      rw [unhide HZ0]
      refine ((unhide HC).text (.slice none 0 0) [] s0 _ (.inl ⟨rfl, rfl⟩) (by simp) (by have := unhide HM0; have := unhide HM3; omega)).mono ?_
      rintro e w10 ⟨v10, rfl, hO⟩
      rw [← unhide HZ0]
      rw [List.nil_append] at hO
      have HV10 := hide hO.bytes
      have HB10 := hide ((unhide HB8).trans (hO.bb.mono (unhide HB8).size))
      clear hO
      go_wp2_with fail
      rw [unhide HZ0]
      refine (wRefText_any s0 (by have := unhide HM0; have := unhide HM3; omega) _).mono ?_
      rintro e w11 ⟨v11, rfl, hO⟩
      rw [← unhide HZ0]
      have HV11 := hide hO.bytes
      have HV10b := hide ((unhide HV10).laterW2 hO.bb)
      have HB11 := hide ((unhide HB10).trans (hO.bb.mono (unhide HB10).size))
      clear hO
      go_wp2_with fail
      refine (wSame_true _ _ (textB s0) _ (unhide HV10b) (unhide HV11)).mono ?_
      rintro e w12 ⟨rfl, hw⟩
      rw [hw]
      clear hw w12 HV10 HV10b HV11 HB10
      go_wp2_with fail
      refine ((unhide HC).size x0 _ (unhide HX0)).mono ?_
      rintro e w13 ⟨rfl, hb⟩
      have HB13 := hide ((unhide HB11).trans (hb.mono (unhide HB11).size))
      clear hb
      go_wp2_with fail
      refine (wRefNum_any x0 (unhide HX0) _).mono ?_
      rintro e w14 ⟨v14, rfl, hO⟩
      obtain ⟨ua, uc, rfl, _⟩ := hO.bytes.form
      have HB14 := hide ((unhide HB13).trans (hO.bb.mono (unhide HB13).size))
      clear hO
      go_wp2_with fail
      refine (unhide HAW _).mono ?_
      rintro e w15 ⟨rfl, hb⟩
      have HB15 := hide ((unhide HB14).trans (hb.mono (unhide HB14).size))
      clear hb
      go_wp2_with fail
      go_ret
      exact ⟨rfl, unhide HB15⟩
  · have HNO := hide hNo
    clear hNo
    go_wp2_with fail
    refine (wRefTakeNum_any (.slice a n c) bs _ (unhide HH1) (by have := unhide HN; have := unhide HL; omega)).mono ?_
    rintro e w2 ⟨ht, hw⟩
    rw [hw]
    clear hw w2
    obtain rfl := ref_noNum ht (unhide HNO)
    clear ht
    go_wp2_with fail
    refine ((unhide HC).takeText a n c bs most _ (unhide HH1) (by have := unhide HN; omega) (unhide HMO)).mono ?_
    rintro e w5 ⟨ht, hb5⟩
    have HB5 := hide ((unhide HB1).trans (hb5.mono (unhide HB1).size))
    have HH5 := hide ((unhide HH1).laterW2 hb5)
    clear hb5 HH1 HB1
    rcases ht with ⟨t, j, ta, tc, hr, hB, rfl⟩ | ⟨hNo, rfl⟩
    · have HRT := hide hr
      have hjl := hr.le
      rw [unhide HL] at hjl
      have HJL := hide hjl
      have HBT := hide hB
      obtain ⟨J, hJ⟩ : ∃ J, J = j + t.length := ⟨_, rfl⟩
      rw [← hJ] at hjl hB
      have HJ := hide hJ
      clear hr hJ HBT
      have HBT := hide hB
      clear hB
      obtain ⟨sa2, sc2, hS, q, q'⟩ := slice_from (unhide HH5) hjl
      have HS := hide hS
      clear hS
      go_wp2_with fail
      refine (wRefTakeText_any (.slice a n c) bs most _ (unhide HH5) (by have := unhide HN; have := unhide HL; omega) (unhide HMO)).mono ?_
      rintro e w6 ⟨ht, hw⟩
      rw [hw]
      clear hw w6
      obtain rfl := ref_text ht (unhide HRT)
      rw [← unhide HJ]
      clear ht
      generalize (⟨t.toArray⟩ : ByteArray) = zt at *
      go_wp2_with fail
      refine (wSame_true _ _ (bs.drop J) _ (unhide HBT) (unhide HS)).mono ?_
      rintro e w6 ⟨rfl, hw⟩
      rw [hw]
      clear hw w6 HS HBT q q' hjl
      go_wp2_with fail
      refine ((unhide HC).num (.slice none 0 0) [] x0 _ (unhide HX0) (.inl ⟨rfl, rfl⟩) (by simp)).mono ?_
      rintro e w7 ⟨v7, rfl, hO⟩
      rw [List.nil_append] at hO
      have HV7 := hide hO.bytes
      have HB7 := hide ((unhide HB5).trans (hO.bb.mono (unhide HB5).size))
      clear hO
      go_wp2_with fail
      refine (wRefNum_any x0 (unhide HX0) _).mono ?_
      rintro e w8 ⟨v8, rfl, hO⟩
      have HV8 := hide hO.bytes
      have HV7b := hide ((unhide HV7).laterW2 hO.bb)
      have HB8 := hide ((unhide HB7).trans (hO.bb.mono (unhide HB7).size))
      clear hO
      go_wp2_with fail
      refine (wSame_true _ _ (numB x0) _ (unhide HV7b) (unhide HV8)).mono ?_
      rintro e w9 ⟨rfl, hw⟩
      rw [hw]
      clear hw w9 HV7 HV7b HV8 HB7
      go_wp2_with fail
      rw [unhide HZ0]
      refine ((unhide HC).text (.slice none 0 0) [] s0 _ (.inl ⟨rfl, rfl⟩) (by simp) (by have := unhide HM0; have := unhide HM3; omega)).mono ?_
      rintro e w10 ⟨v10, rfl, hO⟩
      rw [← unhide HZ0]
      rw [List.nil_append] at hO
      have HV10 := hide hO.bytes
      have HB10 := hide ((unhide HB8).trans (hO.bb.mono (unhide HB8).size))
      clear hO
      go_wp2_with fail
      rw [unhide HZ0]
      refine (wRefText_any s0 (by have := unhide HM0; have := unhide HM3; omega) _).mono ?_
      rintro e w11 ⟨v11, rfl, hO⟩
      rw [← unhide HZ0]
      have HV11 := hide hO.bytes
      have HV10b := hide ((unhide HV10).laterW2 hO.bb)
      have HB11 := hide ((unhide HB10).trans (hO.bb.mono (unhide HB10).size))
      clear hO
      go_wp2_with fail
      refine (wSame_true _ _ (textB s0) _ (unhide HV10b) (unhide HV11)).mono ?_
      rintro e w12 ⟨rfl, hw⟩
      rw [hw]
      clear hw w12 HV10 HV10b HV11 HB10
      go_wp2_with fail
      refine ((unhide HC).size x0 _ (unhide HX0)).mono ?_
      rintro e w13 ⟨rfl, hb⟩
      have HB13 := hide ((unhide HB11).trans (hb.mono (unhide HB11).size))
      clear hb
      go_wp2_with fail
      refine (wRefNum_any x0 (unhide HX0) _).mono ?_
      rintro e w14 ⟨v14, rfl, hO⟩
      obtain ⟨ua, uc, rfl, _⟩ := hO.bytes.form
      have HB14 := hide ((unhide HB13).trans (hO.bb.mono (unhide HB13).size))
      clear hO
      go_wp2_with fail
      refine (unhide HAW _).mono ?_
      rintro e w15 ⟨rfl, hb⟩
      have HB15 := hide ((unhide HB14).trans (hb.mono (unhide HB14).size))
      clear hb
      go_wp2_with fail
      go_ret
      exact ⟨rfl, unhide HB15⟩
    · have HNT := hide hNo
      clear hNo
      go_wp2_with fail
      refine (wRefTakeText_any (.slice a n c) bs most _ (unhide HH5) (by have := unhide HN; have := unhide HL; omega) (unhide HMO)).mono ?_
      rintro e w6 ⟨ht, hw⟩
      rw [hw]
      clear hw w6
      obtain rfl := ref_noText ht (unhide HNT)
      clear ht
      go_wp2_with fail
      refine ((unhide HC).num (.slice none 0 0) [] x0 _ (unhide HX0) (.inl ⟨rfl, rfl⟩) (by simp)).mono ?_
      rintro e w7 ⟨v7, rfl, hO⟩
      rw [List.nil_append] at hO
      have HV7 := hide hO.bytes
      have HB7 := hide ((unhide HB5).trans (hO.bb.mono (unhide HB5).size))
      clear hO
      go_wp2_with fail
      refine (wRefNum_any x0 (unhide HX0) _).mono ?_
      rintro e w8 ⟨v8, rfl, hO⟩
      have HV8 := hide hO.bytes
      have HV7b := hide ((unhide HV7).laterW2 hO.bb)
      have HB8 := hide ((unhide HB7).trans (hO.bb.mono (unhide HB7).size))
      clear hO
      go_wp2_with fail
      refine (wSame_true _ _ (numB x0) _ (unhide HV7b) (unhide HV8)).mono ?_
      rintro e w9 ⟨rfl, hw⟩
      rw [hw]
      clear hw w9 HV7 HV7b HV8 HB7
      go_wp2_with fail
      rw [unhide HZ0]
      refine ((unhide HC).text (.slice none 0 0) [] s0 _ (.inl ⟨rfl, rfl⟩) (by simp) (by have := unhide HM0; have := unhide HM3; omega)).mono ?_
      rintro e w10 ⟨v10, rfl, hO⟩
      rw [← unhide HZ0]
      rw [List.nil_append] at hO
      have HV10 := hide hO.bytes
      have HB10 := hide ((unhide HB8).trans (hO.bb.mono (unhide HB8).size))
      clear hO
      go_wp2_with fail
      rw [unhide HZ0]
      refine (wRefText_any s0 (by have := unhide HM0; have := unhide HM3; omega) _).mono ?_
      rintro e w11 ⟨v11, rfl, hO⟩
      rw [← unhide HZ0]
      have HV11 := hide hO.bytes
      have HV10b := hide ((unhide HV10).laterW2 hO.bb)
      have HB11 := hide ((unhide HB10).trans (hO.bb.mono (unhide HB10).size))
      clear hO
      go_wp2_with fail
      refine (wSame_true _ _ (textB s0) _ (unhide HV10b) (unhide HV11)).mono ?_
      rintro e w12 ⟨rfl, hw⟩
      rw [hw]
      clear hw w12 HV10 HV10b HV11 HB10
      go_wp2_with fail
      refine ((unhide HC).size x0 _ (unhide HX0)).mono ?_
      rintro e w13 ⟨rfl, hb⟩
      have HB13 := hide ((unhide HB11).trans (hb.mono (unhide HB11).size))
      clear hb
      go_wp2_with fail
      refine (wRefNum_any x0 (unhide HX0) _).mono ?_
      rintro e w14 ⟨v14, rfl, hO⟩
      obtain ⟨ua, uc, rfl, _⟩ := hO.bytes.form
      have HB14 := hide ((unhide HB13).trans (hO.bb.mono (unhide HB13).size))
      clear hO
      go_wp2_with fail
      refine (unhide HAW _).mono ?_
      rintro e w15 ⟨rfl, hb⟩
      have HB15 := hide ((unhide HB14).trans (hb.mono (unhide HB14).size))
      clear hb
      go_wp2_with fail
      go_ret
      exact ⟨rfl, unhide HB15⟩
end Go.Proofs.Ytifnjdplbdpelaa
