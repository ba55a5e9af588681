/- WireBack: the walk. No statement of the seat is proved here. -/
import Derived.Test.YtifnjdplbdpelaaWireFar
namespace Go.Proofs.Ytifnjdplbdpelaa
open Go.RowKit

theorem tookNum_ok {n : Nat} {bs : List UInt8} {x : Int} {k : Nat} {e : Ending} {W : World} (h : TookNumM n bs e W) (hr : Reads bs x k) : ∃ ra rc, Bytes W (.slice ra (n - k) rc) (bs.drop k) ∧ e = .returned (.tuple #[.int .i64 x, .slice ra (n - k) rc, .int .i64 0]) := by
  rcases h with ⟨x', k', ra, rc, h', hB, rfl⟩ | ⟨hN, _⟩
  · obtain ⟨rfl, rfl⟩ := h'.same hr
    exact ⟨ra, rc, hB, rfl⟩
  · exact absurd hr (hN _ _)
theorem tookText_ok {n : Nat} {bs : List UInt8} {most : Int} {s : List UInt8} {k : Nat} {e : Ending} {W : World} (h : TookTextM n bs most e W) (hr : ReadsT bs most s k) : ∃ ra rc, Bytes W (.slice ra (n - k - s.length) rc) (bs.drop (k + s.length)) ∧ e = .returned (.tuple #[.string ⟨s.toArray⟩, .slice ra (n - k - s.length) rc, .int .i64 0]) := by
  rcases h with ⟨x', k', ra, rc, h', hB, rfl⟩ | ⟨hN, _⟩
  · obtain ⟨rfl, rfl⟩ := h'.same hr
    exact ⟨ra, rc, hB, rfl⟩
  · exact absurd hr (hN _ _)

section
variable (hc : WireOk) (x0 : Int) (s0 : List UInt8) (a1 a2 : Option Addr) (na ca nb cb : Nat) (aa bb : List UInt8) (w : World)

set_option maxRecDepth 100000 in
set_option maxHeartbeats 8000000 in
include hc in
theorem wireBack_small (hA : Bytes w (.slice a1 na ca) aa) (hB : Bytes w (.slice a2 nb cb) bb) (hx0 : InR x0) (h1 : ¬ s0.length > 300) (h2 : ¬ na > 40) (h3 : ¬ nb > 40) : Calls Try.prog 4 #[.int .i64 x0, .string ⟨s0.toArray⟩, .slice a1 na ca, .slice a2 nb cb] w fun e w' => e = .returned (.bool true) ∧ Below w.heap.size w w' := by
  obtain ⟨hal, hac⟩ := bytes_len hA
  obtain ⟨hbl, hbc⟩ := bytes_len hB
  have HC := hide hc
  have HAW := hide (wAwake_any hc)
  have hsz : (⟨s0.toArray⟩ : ByteArray).size = s0.length := by simp [ByteArray.size]
  obtain ⟨z0, hz0⟩ : ∃ z : ByteArray, z = ⟨s0.toArray⟩ := ⟨_, rfl⟩
  rw [← hz0] at hsz ⊢
  obtain ⟨m0, hm0⟩ : ∃ m0, m0 = s0.length := ⟨_, rfl⟩
  rw [← hm0] at hsz h1
  have HIM : Hid (InR ((m0 : Nat) : Int)) := by show InR _; unfold InR; omega
  obtain ⟨K, hK⟩ : ∃ K, K = (numB x0).length := ⟨_, rfl⟩
  obtain ⟨S, hS⟩ : ∃ S, S = (numB ((m0 : Nat) : Int)).length := ⟨_, rfl⟩
  have HSZ1 : Hid (∀ W, Calls Try.prog 18 #[.int .i64 x0] W fun e w' => e = .returned (.int .i64 ((K : Nat) : Int)) ∧ Below W.heap.size W w') := fun W => by rw [hK]; exact hc.size x0 W hx0
  have HSZ2 : Hid (∀ W, Calls Try.prog 18 #[.int .i64 ((m0 : Nat) : Int)] W fun e w' => e = .returned (.int .i64 ((S : Nat) : Int)) ∧ Below W.heap.size W w') := fun W => by rw [hS]; exact hc.size _ W (unhide HIM)
  have hK10 : K ≤ 10 := by rw [hK]; exact numB_ten hx0
  have hS10 : S ≤ 10 := by rw [hS]; exact numB_ten (unhide HIM)
  obtain ⟨T, hT⟩ : ∃ T, T = S + m0 := ⟨_, rfl⟩
  have hTL : (textB s0).length = T := by rw [textB, List.length_append, hT, hS, hm0]
  obtain ⟨X, hX⟩ : ∃ X, X = na + K := ⟨_, rfl⟩
  obtain ⟨P, hP⟩ : ∃ P, P = na + S := ⟨_, rfl⟩
  obtain ⟨Y, hY⟩ : ∃ Y, Y = na + T := ⟨_, rfl⟩
  have e1 : ((na : Nat) : Int) + ((K : Nat) : Int) = ((X : Nat) : Int) := by omega
  have e2 : ((na : Nat) : Int) + ((S : Nat) : Int) = ((P : Nat) : Int) := by omega
  have e3 : ((P : Nat) : Int) + ((m0 : Nat) : Int) = ((Y : Nat) : Int) := by omega
  have b1 : ((X : Nat) : Int) ≤ 1000 := by omega
  have b2 : ((P : Nat) : Int) ≤ 1000 := by omega
  have b3 : ((Y : Nat) : Int) ≤ 1000 := by omega
  have g1 : ¬ ((m0 : Nat) : Int) > 300 := by omega
  have g2 : ¬ ((na : Nat) : Int) > 40 := by omega
  have g3 : ¬ ((nb : Nat) : Int) > 40 := by omega
  have g4 : ¬ ((X : Nat) : Int) < ((na : Nat) : Int) := by omega
  have g5 : ¬ ((Y : Nat) : Int) < ((na : Nat) : Int) := by omega
  have HZ0 := hide hz0
  have HM0 := hide hm0
  have HAL := hide hal
  have HBL := hide hbl
  have HA := hide hA
  have HB := hide hB
  have HX0 := hide hx0
  have HLM : Hid (m0 ≤ 300 ∧ na ≤ 40 ∧ nb ≤ 40) := by show _ ∧ _; omega
  have HKD := hide hK
  have HTL := hide hTL
  have HSD := hide hS
  have HTD := hide hT
  have HXD := hide hX
  have HYD := hide hY
  have HKS : Hid (K ≤ 10 ∧ S ≤ 10) := ⟨hK10, hS10⟩
  clear hc hx0 hA hB hz0 hm0 hal hbl h1 h2 h3 hK hS hT hX hP hY hTL hK10 hS10
  go_enter Try.func4, Try.ntmps4
  go_wp2_with fail
  refine ((unhide HC).num _ aa x0 _ (unhide HX0) (unhide HA) (by have := unhide HAL; have := unhide HLM; omega)).mono ?_
  rintro e W1 ⟨v, rfl, hO⟩
  have hb := hO.bytes
  obtain ⟨xa, xc, rfl, hxc⟩ := hb.form
  rw [show (aa ++ numB x0).length = X by rw [List.length_append, unhide HAL, ← unhide HKD, unhide HXD]] at hb hxc ⊢
  have HB1 := hide hO.bb
  have HXB1 := hide hb
  have HA1 := hide ((unhide HA).laterW2 hO.bb)
  clear hO hb
  go_wp2_with fail
  rw [unhide HZ0]
  refine ((unhide HC).text _ aa s0 _ (unhide HA1) (by have := unhide HAL; have := unhide HLM; omega) (by have := unhide HM0; have := unhide HLM; omega)).mono ?_
  rintro e W2 ⟨v, rfl, hO⟩
  rw [← unhide HZ0]
  have hb := hO.bytes
  obtain ⟨ya, yc, rfl, hyc⟩ := hb.form
  rw [show (aa ++ textB s0).length = Y by rw [List.length_append, unhide HAL, unhide HTL, unhide HYD]] at hb hyc ⊢
  have HB2 := hide ((unhide HB1).trans (hO.bb.mono (unhide HB1).size))
  have HYB2 := hide hb
  have HXB2 := hide ((unhide HXB1).laterW2 hO.bb)
  clear hO hb HXB1 HA1 HB1
  go_wp2_with fail
  refine (unhide HSZ1 _).mono ?_
  rintro e W3 ⟨rfl, hb⟩
  have HB3 := hide ((unhide HB2).trans (hb.mono (unhide HB2).size))
  have HYB3 := hide ((unhide HYB2).laterW2 hb)
  have HXB3 := hide ((unhide HXB2).laterW2 hb)
  clear hb HB2 HYB2 HXB2
  go_wp2_with fail
  refine (unhide HSZ2 _).mono ?_
  rintro e W4 ⟨rfl, hb⟩
  have HB4 := hide ((unhide HB3).trans (hb.mono (unhide HB3).size))
  have HYB4 := hide ((unhide HYB3).laterW2 hb)
  have HXB4 := hide ((unhide HXB3).laterW2 hb)
  have HA4 := hide ((unhide HA).laterW2 (unhide HB4))
  have HBB4 := hide ((unhide HB).laterW2 (unhide HB4))
  clear hb HB3 HYB3 HXB3 HSZ1 HSZ2
  have hnX : na ≤ X := by have := unhide HXD; omega
  have hnY : na ≤ Y := by have := unhide HYD; omega
  have hxl : (aa ++ numB x0).length = X := by rw [List.length_append, unhide HAL, ← unhide HKD, unhide HXD]
  have hyl : (aa ++ textB s0).length = Y := by rw [List.length_append, unhide HAL, unhide HTL, unhide HYD]
  obtain ⟨q1, q1'⟩ := head_run (a := xa) (n := X) (c := xc) (h := na) (by omega)
  obtain ⟨q2, q2'⟩ := head_run (a := ya) (n := Y) (c := yc) (h := na) (by omega)
  have hx1 := (unhide HXB4).take hnX hxl
  have hy1 := (unhide HYB4).take hnY hyl
  rw [show (aa ++ numB x0).take na = aa by rw [← unhide HAL]; exact List.take_left' rfl] at hx1
  rw [show (aa ++ textB s0).take na = aa by rw [← unhide HAL]; exact List.take_left' rfl] at hy1
  obtain ⟨sa, sc, hx2, q3, q3'⟩ := slice_from (unhide HXB4) hnX
  obtain ⟨ta, tc, hy2, q4, q4'⟩ := slice_from (unhide HYB4) hnY
  rw [show (aa ++ numB x0).drop na = numB x0 by rw [← unhide HAL]; exact List.drop_left' rfl, show X - na = K by have := unhide HXD; omega] at hx2
  rw [show (aa ++ textB s0).drop na = textB s0 by rw [← unhide HAL]; exact List.drop_left' rfl, show Y - na = T by have := unhide HYD; omega] at hy2
  rw [show X - na = K by have := unhide HXD; omega] at q3 q3'
  rw [show Y - na = T by have := unhide HYD; omega] at q4 q4'
  have HX1 := hide hx1
  have HY1 := hide hy1
  have HX2 := hide hx2
  have HY2 := hide hy2
  clear hx1 hy1 hx2 hy2 hxl hyl hnX hnY HXB4 HYB4
  go_wp2_with fail
  refine (wSame_true _ _ aa _ (unhide HX1) (unhide HA4)).mono ?_
  rintro e W5 ⟨rfl, hw⟩
  rw [hw]
  clear hw W5
  go_wp2_with fail
  refine (wSame_true _ _ aa _ (unhide HY1) (unhide HA4)).mono ?_
  rintro e W5 ⟨rfl, hw⟩
  rw [hw]
  clear hw W5 HX1 HY1 HA4 HA
  go_upto_region 8 with fail
  clear q1 q1' q2 q2' g4 g5 b1 b2 b3 e1 e2 e3
  go_quiet (fail)
  have hbd := below_drewN W4 nq
  have HB5 := hide ((unhide HB4).trans (hbd.mono (unhide HB4).size))
  have HX5 := hide ((unhide HX2).laterW2 hbd)
  have HY5 := hide ((unhide HY2).laterW2 hbd)
  have HBB5 := hide ((unhide HBB4).laterW2 hbd)
  clear hbd HB4 HX2 HY2 HBB4 q3 q3' q4 q4'
  generalize W4.drewN nq = W5 at *
  obtain ⟨ti, hti, hz0, hz1, hz2⟩ := infoByte
  have HO5 : Hid (Own W5 (.slice (some ⟨W5.heap.size, 0, none⟩) 0 0) [] (W5.alloc (.cells #[] 5))) := ⟨own_nil W5, fun k hk => by simp [Value.ownBlock] at hk; omega, (Below.refl _ W5).alloc (Nat.le_refl _) _⟩
  have HXA := hide ((unhide HX5).alloc (.cells #[] 5))
  have HKS1 := (unhide HKS).1
  have HNB := (unhide HLM).2.2
  go_wp2_with (at_builtin; refine wpList_append_bytes _ rfl (.tmp 109) (.tmp 110) 22 rfl 5 ti (.int .u8 0) Try.underlying22 hti hz0 hz1 hz2 rfl _ [] rfl (unhide HO5).own _ (numB x0) rfl (unhide HXA) (by have := unhide HKD; simp; omega) ?_)
  rintro v6 W6 r1 r2 r3
  have HO6 := hide ((unhide HO5).grown (cs := numB x0) (by simpa using r1) r2 (by simpa using r3))
  have HBB6 := hide ((unhide HBB5).laterW2 (unhide HO6).bb)
  clear r1 r2 r3 HO5 HXA
  go_wp2_with (at_builtin; refine wpList_append_bytes _ rfl (.tmp 111) (.tmp 112) 22 rfl 5 ti (.int .u8 0) Try.underlying22 hti hz0 hz1 hz2 rfl _ (numB x0) rfl (unhide HO6).own _ bb rfl (unhide HBB6) (by have := unhide HBL; have := unhide HKD; omega) ?_)
  rintro v7 W7 r1 r2 r3
  have hO7 := (unhide HO6).grown (cs := numB x0 ++ bb) (by simpa using r1) r2 (by simpa using r3)
  clear r1 r2 r3 HO6 HBB6
  have hb := hO7.bytes
  obtain ⟨va, vc, rfl, _⟩ := hb.form
  obtain ⟨M, hM⟩ : ∃ M, M = K + nb := ⟨_, rfl⟩
  rw [show (numB x0 ++ bb).length = M by rw [List.length_append, ← unhide HKD, unhide HBL, hM]] at hb ⊢
  have HMD := hide hM
  have hM50 : M ≤ 50 := by omega
  have HV7 := hide hb
  have HB7 := hide ((unhide HB5).trans (hO7.bb.mono (unhide HB5).size))
  have HX7 := hide ((unhide HX5).laterW2 hO7.bb)
  have HY7 := hide ((unhide HY5).laterW2 hO7.bb)
  have HBB7 := hide ((unhide HBB5).laterW2 hO7.bb)
  clear hO7 hb hM HB5 HX5 HY5 HBB5
  go_wp2_with fail
  refine ((unhide HC).takeNum _ M vc _ _ (unhide HV7) (by omega)).mono ?_
  rintro e W8 ⟨ht, hb8⟩
  obtain ⟨ra, rc, hR, rfl⟩ := tookNum_ok ht (reads_numB (unhide HX0) bb)
  rw [List.drop_left, show M - (numB x0).length = nb by rw [← unhide HKD, unhide HMD]; omega] at hR
  rw [show M - (numB x0).length = nb by rw [← unhide HKD, unhide HMD]; omega]
  have HR8 := hide hR
  have HB8 := hide ((unhide HB7).trans (hb8.mono (unhide HB7).size))
  have HX8 := hide ((unhide HX7).laterW2 hb8)
  have HY8 := hide ((unhide HY7).laterW2 hb8)
  have HBB8 := hide ((unhide HBB7).laterW2 hb8)
  clear hR ht hb8 HB7 HX7 HY7 HBB7 HV7
  have HO8 : Hid (Own W8 (.slice (some ⟨W8.heap.size, 0, none⟩) 0 0) [] (W8.alloc (.cells #[] 5))) := ⟨own_nil W8, fun k hk => by simp [Value.ownBlock] at hk; omega, (Below.refl _ W8).alloc (Nat.le_refl _) _⟩
  have HYA := hide ((unhide HY8).alloc (.cells #[] 5))
  have hT310 : T ≤ 310 := by have := unhide HTD; have := (unhide HKS).2; have := (unhide HLM).1; omega
  go_wp2_with (at_builtin; refine wpList_append_bytes _ rfl (.tmp 119) (.tmp 120) 22 rfl 5 ti (.int .u8 0) Try.underlying22 hti hz0 hz1 hz2 rfl _ [] rfl (unhide HO8).own _ (textB s0) rfl (unhide HYA) (by have := unhide HTL; simp; omega) ?_)
  rintro v9 W9 r1 r2 r3
  have HO9 := hide ((unhide HO8).grown (cs := textB s0) (by simpa using r1) r2 (by simpa using r3))
  have HBB9 := hide ((unhide HBB8).laterW2 (unhide HO9).bb)
  clear r1 r2 r3 HO8 HYA
  go_wp2_with (at_builtin; refine wpList_append_bytes _ rfl (.tmp 121) (.tmp 122) 22 rfl 5 ti (.int .u8 0) Try.underlying22 hti hz0 hz1 hz2 rfl _ (textB s0) rfl (unhide HO9).own _ bb rfl (unhide HBB9) (by have := unhide HBL; have := unhide HTL; omega) ?_)
  rintro v10 W10 r1 r2 r3
  have hO10 := (unhide HO9).grown (cs := textB s0 ++ bb) (by simpa using r1) r2 (by simpa using r3)
  clear r1 r2 r3 HO9 HBB9
  have hb := hO10.bytes
  obtain ⟨ub, uc, rfl, _⟩ := hb.form
  obtain ⟨M2, hM2⟩ : ∃ M2, M2 = T + nb := ⟨_, rfl⟩
  rw [show (textB s0 ++ bb).length = M2 by rw [List.length_append, unhide HTL, unhide HBL, hM2]] at hb ⊢
  have HMD2 := hide hM2
  have hM400 : M2 ≤ 400 := by omega
  have HV10 := hide hb
  have HB10 := hide ((unhide HB8).trans (hO10.bb.mono (unhide HB8).size))
  have HX10 := hide ((unhide HX8).laterW2 hO10.bb)
  have HY10 := hide ((unhide HY8).laterW2 hO10.bb)
  have HBB10 := hide ((unhide HBB8).laterW2 hO10.bb)
  have HR10 := hide ((unhide HR8).laterW2 hO10.bb)
  clear hO10 hb hM2 HB8 HX8 HY8 HBB8 HR8
  go_wp2_with fail
  refine ((unhide HC).takeText _ M2 uc _ ((m0 : Nat) : Int) _ (unhide HV10) (by omega) (unhide HIM)).mono ?_
  rintro e W11 ⟨ht, hb11⟩
  have hrt : ReadsT (textB s0 ++ bb) ((m0 : Nat) : Int) s0 S := by
    have := ReadsT.of (b := textB s0 ++ bb) (r := bb) (s := s0) (most := ((m0 : Nat) : Int)) (by have := unhide HIM; rw [unhide HM0] at this; exact this) (by rw [unhide HM0]; exact Int.le_refl _) rfl
    rw [← unhide HM0, ← unhide HSD] at this
    exact this
  obtain ⟨rb, rd, hR2, rfl⟩ := tookText_ok ht hrt
  have hd : (textB s0 ++ bb).drop (S + s0.length) = bb := by
    rw [← unhide HM0, ← unhide HTD, ← unhide HTL]
    exact List.drop_left
  have hm2 : M2 - S - s0.length = nb := by rw [← unhide HM0, unhide HMD2, unhide HTD]; omega
  rw [hd, hm2] at hR2
  rw [hm2]
  have HR2 := hide hR2
  have HB11 := hide ((unhide HB10).trans (hb11.mono (unhide HB10).size))
  have HX11 := hide ((unhide HX10).laterW2 hb11)
  have HY11 := hide ((unhide HY10).laterW2 hb11)
  have HBB11 := hide ((unhide HBB10).laterW2 hb11)
  have HR11 := hide ((unhide HR10).laterW2 hb11)
  rw [← unhide HZ0]
  clear hR2 ht hb11 hrt hd hm2 HB10 HX10 HY10 HBB10 HR10 HV10
  go_wp2_with fail
  refine (wSame_true _ _ bb _ (unhide HR11) (unhide HBB11)).mono ?_
  rintro e W12 ⟨rfl, hw⟩
  rw [hw]
  clear hw W12
  go_wp2_with fail
  refine (wSame_true _ _ bb _ (unhide HR2) (unhide HBB11)).mono ?_
  rintro e W12 ⟨rfl, hw⟩
  rw [hw]
  clear hw W12 HR11 HR2 HBB11 HB
  have hKK : K ≤ 10 := (unhide HKS).1
  have hKc := (bytes_len (unhide HX11)).2
  have hTc := (bytes_len (unhide HY11)).2
  have HKL2 : Hid ((numB x0).length = K) := (unhide HKD).symm
  clear HBL HKD HMD HMD2 hM50 hM400 HNB
  go_wp2
  go_loopw [160] (fun i W => ∃ j : Nat, j ≤ K ∧ i = .int .i64 ((j : Nat) : Int) ∧ Below W11.heap.size W11 W) (fun i _ => K - (intOf i).toNat)
  case atStart => exact ⟨0, by omega, rfl, Below.refl _ _⟩
  case round =>
    obtain ⟨j, hj, rfl, hb⟩ := hrel
    have HB := hide hb
    clear hb
    by_cases hlt : j < K
    · have hji : ((j : Nat) : Int) < ((K : Nat) : Int) := by omega
      obtain ⟨q, q'⟩ := head_run (a := sa) (n := K) (c := sc) (h := j) (by omega)
      have HBT := hide (((unhide HX11).laterW2 (unhide HB)).take (m := j) hj (unhide HKL2))
      go_wp2_with fail
      refine ((unhide HC).takeNum _ j sc _ _ (unhide HBT) (by omega)).mono ?_
      rintro e W12 ⟨ht, hb12⟩
      obtain rfl := tookNum_none ht (noNum_take (by rw [unhide HKL2]; exact hlt))
      have HB12 := hide ((unhide HB).trans (hb12.mono (unhide HB).size))
      clear ht hb12 HBT q q'
      go_wp2_with fail
      exact ⟨⟨j + 1, by omega, by go_num, unhide HB12⟩, by simp [intOf]; omega⟩
    · have hji : ¬ ((j : Nat) : Int) < ((K : Nat) : Int) := by omega
      have HY12 := hide ((unhide HY11).laterW2 (unhide HB))
      have HB12 := hide ((unhide HB11).trans ((unhide HB).mono (unhide HB11).size))
      clear HX11 HY11 HB11 HB hj hlt
      generalize wr = W12 at *
      go_wp2
      go_loopw [176] (fun i W => ∃ j : Nat, j ≤ T ∧ i = .int .i64 ((j : Nat) : Int) ∧ Below W12.heap.size W12 W) (fun i _ => T - (intOf i).toNat)
      case atStart => exact ⟨0, by omega, rfl, Below.refl _ _⟩
      case round =>
        obtain ⟨l, hl, rfl, hb⟩ := hrel
        have HB := hide hb
        clear hb hji
        by_cases hlt : l < T
        · have hli : ((l : Nat) : Int) < ((T : Nat) : Int) := by omega
          obtain ⟨q, q'⟩ := head_run (a := ta) (n := T) (c := tc) (h := l) (by omega)
          have HBT := hide (((unhide HY12).laterW2 (unhide HB)).take (m := l) hl (unhide HTL))
          go_wp2_with fail
          refine ((unhide HC).takeText _ l tc _ 1000 _ (unhide HBT) (by omega) (by unfold InR; omega)).mono ?_
          rintro e W13 ⟨ht, hb13⟩
          obtain rfl := tookText_none ht (noText_take (by rw [unhide HTL]; exact hlt))
          have HB13 := hide ((unhide HB).trans (hb13.mono (unhide HB).size))
          clear ht hb13 HBT q q'
          go_wp2_with fail
          exact ⟨⟨l + 1, by omega, by go_num, unhide HB13⟩, by simp [intOf]; omega⟩
        · have hli : ¬ ((l : Nat) : Int) < ((T : Nat) : Int) := by omega
          have HY13 := hide ((unhide HY12).laterW2 (unhide HB))
          have HB13 := hide ((unhide HB12).trans ((unhide HB).mono (unhide HB12).size))
          obtain ⟨mm, hmm⟩ : ∃ mm : Int, mm = ((m0 : Nat) : Int) - 1 := ⟨_, rfl⟩
          have hmr : InR mm := by unfold InR; have := (unhide HLM).1; omega
          have hml : mm < s0.length := by have := unhide HM0; omega
          have hm300 := (unhide HLM).1
          have HMR := hide hmr
          have HML := hide hml
          have hmm2 : ((m0 : Nat) : Int) - 1 = mm := hmm.symm
          have HMM := hide hmm2
          clear HY12 HB12 HB hl hlt hmr hml hmm hmm2
          go_wp2_with fail
          rw [unhide HMM]
          refine ((unhide HC).takeText _ T tc _ mm _ (unhide HY13) (by omega) (unhide HMR)).mono ?_
          rintro e W14 ⟨ht, hb14⟩
          have hnt := noText_most (s := s0) (r := []) (unhide HML)
          rw [List.append_nil] at hnt
          obtain rfl := tookText_none ht hnt
          have HB14 := hide ((unhide HB13).trans (hb14.mono (unhide HB13).size))
          clear ht hb14 hnt
          go_wp2_with fail
          refine (unhide HAW _).mono ?_
          rintro e W15 ⟨rfl, hb15⟩
          have HB15 := hide ((unhide HB14).trans (hb15.mono (unhide HB14).size))
          clear hb15
          go_wp2_with fail
          go_ret
          exact ⟨rfl, unhide HB15⟩

set_option maxRecDepth 100000 in
set_option maxHeartbeats 4000000 in
include hc in
theorem wireBack_any (hA : Bytes w (.slice a1 na ca) aa) (hB : Bytes w (.slice a2 nb cb) bb) (hx0 : InR x0) : Calls Try.prog 4 #[.int .i64 x0, .string ⟨s0.toArray⟩, .slice a1 na ca, .slice a2 nb cb] w fun e w' => e = .returned (.bool true) ∧ Below w.heap.size w w' := by
  have HAW := hide (wAwake_any hc)
  have hsz : (⟨s0.toArray⟩ : ByteArray).size = s0.length := by simp [ByteArray.size]
  by_cases h1 : s0.length > 300
  · have g1 : ((s0.length : Nat) : Int) > 300 := by omega
    generalize (⟨s0.toArray⟩ : ByteArray) = z0 at *
    clear hA hB hc hx0 h1
    go_enter Try.func4, Try.ntmps4
    go_wp2_with fail
    refine (unhide HAW _).mono ?_
    rintro e w' ⟨rfl, hb⟩
    have HB := hide hb
    clear hb
    go_wp2
    go_ret
    exact ⟨rfl, unhide HB⟩
  by_cases h2 : na > 40
  · have g1 : ¬ ((s0.length : Nat) : Int) > 300 := by omega
    have g2 : ((na : Nat) : Int) > 40 := by omega
    generalize (⟨s0.toArray⟩ : ByteArray) = z0 at *
    clear hA hB hc hx0 h1 h2
    go_enter Try.func4, Try.ntmps4
    go_wp2_with fail
    refine (unhide HAW _).mono ?_
    rintro e w' ⟨rfl, hb⟩
    have HB := hide hb
    clear hb
    go_wp2
    go_ret
    exact ⟨rfl, unhide HB⟩
  by_cases h3 : nb > 40
  · have g1 : ¬ ((s0.length : Nat) : Int) > 300 := by omega
    have g2 : ¬ ((na : Nat) : Int) > 40 := by omega
    have g3 : ((nb : Nat) : Int) > 40 := by omega
    generalize (⟨s0.toArray⟩ : ByteArray) = z0 at *
    clear hA hB hc hx0 h1 h2 h3
    go_enter Try.func4, Try.ntmps4
    go_wp2_with fail
    refine (unhide HAW _).mono ?_
    rintro e w' ⟨rfl, hb⟩
    have HB := hide hb
    clear hb
    go_wp2
    go_ret
    exact ⟨rfl, unhide HB⟩
  exact wireBack_small hc x0 s0 a1 a2 na ca nb cb aa bb w hA hB hx0 h1 h2 h3
end
end Go.Proofs.Ytifnjdplbdpelaa
