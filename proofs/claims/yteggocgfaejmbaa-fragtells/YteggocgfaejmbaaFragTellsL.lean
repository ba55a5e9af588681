/- FragTells of foremanlaw09: its walk. No statement of the seat is proved here. -/
import Derived.Test.YteggocgfaejmbaaBase06
import Derived.Test.YteggocgfaejmbaaBase07
import Derived.Test.YteggocgfaejmbaaBase08
import Derived.Test.YteggocgfaejmbaaBase09
namespace Go.Proofs.Yteggocgfaejmbaa
open Go.RowKit

set_option maxRecDepth 100000 in
set_option maxHeartbeats 8000000 in
theorem tellsLaw_any (l : List FI) (a1 : Option Addr) (n1 c1 : Nat) (m : List FI) (a2 : Option Addr) (n2 c2 : Nat) (s : List UInt8) (a : Option Addr) (n c : Nat) (bs : List UInt8) (w : World) (hL : FragAt (fun _ => True) w l (.slice a1 n1 c1)) (hM : FragAt (fun _ => True) w m (.slice a2 n2 c2)) (hB : Bytes w (.slice a n c) bs) :
    Calls Try.prog 3 #[.slice a1 n1 c1, .slice a2 n2 c2, .string ⟨s.toArray⟩, .slice a n c] w fun e w' => e = .returned (.bool true) ∧ Below w.heap.size w w' := by
  obtain ⟨hbl, -⟩ := bytes_len hB
  have HAA : Hid (∀ X, Below w.heap.size w X → FragAt (fun _ => True) X l (.slice a1 n1 c1) ∧ FragAt (fun _ => True) X m (.slice a2 n2 c2) ∧ Bytes X (.slice a n c) bs) := fun X hX => ⟨hL.later hX, hM.later hX, hB.laterW hX⟩
  have HBL := hide hbl
  clear hB hL hM hbl
  have hsz := str_size s
  have HCS := hide (fun W => fName_any s W)
  have HRS : Hid (s.length ≤ 100 → ∀ W, Calls Try.prog 14 #[.string ⟨s.toArray⟩] W fun e w' => e = .returned (.bool (nameB s)) ∧ w' = W) := fun h W => rName_any s (by omega) W
  obtain ⟨k, hk⟩ : ∃ k, k = s.length := ⟨_, rfl⟩
  rw [← hk] at hsz HRS
  obtain ⟨z, hz⟩ : ∃ z : ByteArray, z = ⟨s.toArray⟩ := ⟨_, rfl⟩
  rw [← hz] at hsz HCS HRS ⊢
  obtain ⟨nb, hnb⟩ : ∃ nb, nb = nameB s := ⟨_, rfl⟩
  rw [← hnb] at HCS HRS
  clear hk hz hnb
  have HAW : Hid (∀ W, Below w.heap.size w W → Calls Try.prog 10 #[] W fun e w' => e = .returned (.bool true) ∧ Below w.heap.size w w') := fun W hW => (awakeF_any W).mono fun e w' ⟨h1, h2⟩ => ⟨h1, hW.trans (h2.mono hW.size)⟩
  go_enter Try.func3, Try.ntmps3
  go_wp2_with fail
  refine (few_any l _ _ w (unhide HAA w (Below.refl _ _)).1).mono ?_
  rintro e w1 ⟨⟨f1, rfl, hf1⟩, hb1⟩
  have HB1 := hide hb1
  have HF1 := hide hf1
  clear hb1 hf1
  cases f1 with
  | false =>
    go_wp2_with fail
    refine (unhide HAW _ (unhide HB1)).mono ?_
    rintro e w2 ⟨rfl, hb2⟩
    have HB2 := hide hb2
    clear hb2
    go_wp2_with fail
    go_ret
    exact ⟨rfl, unhide HB2⟩
  | true =>
  go_wp2_with fail
  refine (few_any m _ _ w1 (unhide HAA w1 (unhide HB1)).2.1).mono ?_
  rintro e w2 ⟨⟨f2, rfl, hf2⟩, hb2⟩
  have HB2 := hide ((unhide HB1).trans (hb2.mono (unhide HB1).size))
  clear hb2 hf2 HB1
  cases f2 with
  | false =>
    go_wp2_with fail
    refine (unhide HAW _ (unhide HB2)).mono ?_
    rintro e w3 ⟨rfl, hb3⟩
    have HB3 := hide hb3
    clear hb3
    go_wp2_with fail
    go_ret
    exact ⟨rfl, unhide HB3⟩
  | true =>
  by_cases hk100 : k > 100
  · have p1 : ((k : Nat) : Int) > 100 := by omega
    clear hk100
    go_wp2_with fail
    refine (unhide HAW _ (unhide HB2)).mono ?_
    rintro e w3 ⟨rfl, hb3⟩
    have HB3 := hide hb3
    clear hb3
    go_wp2_with fail
    go_ret
    exact ⟨rfl, unhide HB3⟩
  have p1 : ¬ ((k : Nat) : Int) > 100 := by omega
  by_cases hbig : n > 1500
  · have p2 : ((n : Nat) : Int) > 1500 := by omega
    clear hbig hk100
    go_wp2_with fail
    refine (unhide HAW _ (unhide HB2)).mono ?_
    rintro e w3 ⟨rfl, hb3⟩
    have HB3 := hide hb3
    clear hb3
    go_wp2_with fail
    go_ret
    exact ⟨rfl, unhide HB3⟩
  have p2 : ¬ ((n : Nat) : Int) > 1500 := by omega
  have HN : Hid (n ≤ 1500) := by show _ ≤ _; omega
  have HRN := hide (unhide HRS (by omega))
  have HSM := hide (unhide HF1 trivial).small
  clear hbig hk100 HF1 HRS
  go_upto_region 3 with fail
  clear p1 p2
  go_wp2_with fail
  refine (rRight_any l _ _ w2 (unhide HAA w2 (unhide HB2)).1 (unhide HSM)).mono ?_
  rintro e w3 ⟨rfl, hb3⟩
  obtain ⟨rt, hrt⟩ : ∃ rt, rt = rightF l := ⟨_, rfl⟩
  rw [← hrt]
  have HRT := hide hrt
  have HB3 := hide ((unhide HB2).trans (hb3.mono (unhide HB2).size))
  clear hb3 HB2 hrt
  go_wp2_with fail
  refine (fBytes_any l _ _ _ (unhide HAA _ (unhide HB3)).1).mono ?_
  rintro e w4 ⟨pa, pn, pc, e1, r1, rfl, hp1, hb4, ho1⟩
  have HP1 := hide hp1
  have HO1 : Hid ((rt = true ∧ e1 = 0 ∧ r1 = bytesF l) ∨ (rt = false ∧ e1 = 2 ∧ pn = 0)) := by
    rcases ho1 with ⟨h1, h2, h3, -⟩ | ⟨h1, h2, -, h4⟩
    · exact .inl ⟨by rw [unhide HRT, h1], h2, h3⟩
    · exact .inr ⟨by rw [unhide HRT, h1], h2, h4⟩
  have HB4 := hide ((unhide HB3).trans (hb4.mono (unhide HB3).size))
  clear hp1 ho1 hb4 HB3
  go_upto_region 5 with fail
  go_cut [94] (fun t wx => t = .bool false ∧ Below w4.heap.size w4 wx)
  case first =>
    have hnn : (nb != nb) = false := by cases nb <;> rfl
    have hne : (nb == nb) = true := by cases nb <;> rfl
    go_wp2_with fail
    refine (unhide HCS _).mono ?_
    rintro e w5 ⟨rfl, hw⟩
    rw [hw]
    clear hw w5
    go_wp2_with fail
    refine (unhide HRN _).mono ?_
    rintro e w5 ⟨rfl, hw⟩
    rw [hw]
    clear hw w5
    go_wp2_with fail
    refine (fRight_any l _ _ w4 (unhide HAA w4 (unhide HB4)).1).mono ?_
    rintro e w5 ⟨rfl, hb5⟩
    rw [← unhide HRT]
    have HB5 := hide hb5
    have HA5 := hide (unhide HAA w5 ((unhide HB4).trans (hb5.mono (unhide HB4).size)))
    have HP5 := hide ((unhide HP1).laterW hb5)
    clear hb5
    obtain ⟨sm, hsm⟩ : ∃ sm, sm = sameF l m := ⟨_, rfl⟩
    have hmm : (sm != sm) = false := by cases sm <;> rfl
    have hme : (sm == sm) = true := by cases sm <;> rfl
    have HSA := hide hsm
    clear hsm
    rcases unhide HO1 with ⟨rfl, rfl, rfl⟩ | ⟨rfl, rfl, rfl⟩
    · go_wp2_with fail
      refine (fSame_any l m _ _ _ _ w5 (unhide HA5).1 (unhide HA5).2.1).mono ?_
      rintro e w6 ⟨rfl, hb6⟩
      rw [← unhide HSA]
      have HB6 := hide ((unhide HB5).trans (hb6.mono (unhide HB5).size))
      have HA6 := hide (unhide HAA w6 ((unhide HB4).trans ((unhide HB6).mono (unhide HB4).size)))
      have HP6 := hide ((unhide HP5).laterW hb6)
      clear hb6 HB5 HA5 HP5
      go_wp2_with fail
      refine (rSame_any l m _ _ _ _ w6 (unhide HA6).1 (unhide HA6).2.1 (unhide HSM)).mono ?_
      rintro e w7 ⟨rfl, hb7⟩
      rw [← unhide HSA]
      have HB7 := hide ((unhide HB6).trans (hb7.mono (unhide HB6).size))
      have HA7 := hide (unhide HAA w7 ((unhide HB4).trans ((unhide HB7).mono (unhide HB4).size)))
      have HP7 := hide ((unhide HP6).laterW hb7)
      clear hb7 HB6 HA6 HP6
      go_wp2_with fail
      refine (rBytes_any l _ _ w7 (unhide HA7).1 (unhide HRT).symm).mono ?_
      rintro e w8 ⟨r, rfl, hO⟩
      have HR8 := hide hO.fresh.1.1
      have HP8 := hide ((unhide HP7).laterW hO.bb)
      have HB8 := hide ((unhide HB7).trans (hO.bb.mono (unhide HB7).size))
      obtain ⟨qa, qc, rfl, -⟩ := hO.fresh.1.1.form
      obtain ⟨qn, hqn⟩ : ∃ qn, qn = (bytesF l).length := ⟨_, rfl⟩
      rw [← hqn] at HR8 ⊢
      clear hO hqn HB7 HA7 HP7
      go_wp2_with fail
      refine (wSame_true _ _ (bytesF l) _ (unhide HP8) (unhide HR8)).mono ?_
      rintro e w9 ⟨rfl, hw⟩
      rw [hw]
      clear hw w9
      go_wp2_with fail
      go_meet
      exact ⟨rfl, unhide HB8⟩
    · go_wp2_with fail
      refine (fSame_any l m _ _ _ _ w5 (unhide HA5).1 (unhide HA5).2.1).mono ?_
      rintro e w6 ⟨rfl, hb6⟩
      rw [← unhide HSA]
      have HB6 := hide ((unhide HB5).trans (hb6.mono (unhide HB5).size))
      have HA6 := hide (unhide HAA w6 ((unhide HB4).trans ((unhide HB6).mono (unhide HB4).size)))
      clear hb6 HB5 HA5 HP5
      go_wp2_with fail
      refine (rSame_any l m _ _ _ _ w6 (unhide HA6).1 (unhide HA6).2.1 (unhide HSM)).mono ?_
      rintro e w7 ⟨rfl, hb7⟩
      rw [← unhide HSA]
      have HB7 := hide ((unhide HB6).trans (hb7.mono (unhide HB6).size))
      clear hb7 HB6 HA6
      go_wp2_with fail
      go_meet
      exact ⟨rfl, unhide HB7⟩
  obtain ⟨rfl, hb8⟩ := hcut
  have HB8 := hide ((unhide HB4).trans (hb8.mono (unhide HB4).size))
  clear hb8 HO1 HP1 HRT HB4 HCS HRN HSM
  go_wp2_with fail
  refine (fTake_any a n c bs _ (unhide HAA _ (unhide HB8)).2.2 (by have := unhide HN; omega)).mono ?_
  rintro e w9 ⟨x, xa, xn, xc, ra, rn, rc, er, rfl, hx, hb9, hor⟩
  have HB9 := hide ((unhide HB8).trans (hb9.mono (unhide HB8).size))
  have HX9 := hide (hx.wider (B' := fun _ => True) fun _ _ => trivial)
  have HOR := hide hor
  clear hx hb9 hor HB8
  go_wp2_with fail
  refine (rTake_any a n c bs _ (unhide HAA _ (unhide HB9)).2.2 (by have := unhide HN; omega)).mono ?_
  rintro e w10 ⟨y, ya, yn, yc, J, rfl, hy, hb10, hor2⟩
  have HB10 := hide ((unhide HB9).trans (hb10.mono (unhide HB9).size))
  have HX10 := hide ((unhide HX9).later hb10)
  have HY10 := hide (hy.wider (B' := fun _ => True) fun _ _ => trivial)
  have HXY : Hid (x = y ∧ ((er = 0 ∧ 0 < J ∧ J ≤ n ∧ rn + J = n ∧ FReads bs x J ∧ Bytes w10 (.slice ra rn rc) (bs.drop J)) ∨ (er = 30 ∧ NoFrag bs ∧ J = 0 ∧ rn = 0 ∧ y = [] ∧ xn = 0))) := by
    rcases unhide HOR with ⟨h0, j, hj, hjn, hvr, hB⟩ | ⟨h30, hno, hx0, hxn, hrn⟩
    · rcases hor2 with ⟨hJ0, hJn, hvr2⟩ | ⟨-, hno, -⟩
      · obtain ⟨rfl, rfl⟩ := hvr.same hvr2
        exact ⟨rfl, .inl ⟨h0, hJ0, hJn, hjn, hvr, hB.laterW hb10⟩⟩
      · exact absurd hvr (hno _ _)
    · rcases hor2 with ⟨-, -, hvr2⟩ | ⟨hJ0, -, hy0, hyn⟩
      · exact absurd hvr2 (hno _ _)
      · exact ⟨by rw [hx0, hy0], .inr ⟨h30, hno, hJ0, hrn, hy0, hxn⟩⟩
  clear hy hb10 hor2 HB9 HX9 HOR
  obtain ⟨rfl, hor⟩ := unhide HXY
  have HSMX : Hid (SmallF x) := by
    rcases hor with ⟨-, -, -, -, hvr, -⟩ | ⟨-, -, -, -, rfl, -⟩
    · exact rightF_small hvr.1
    · exact ⟨Nat.zero_le _, fun y hy => by cases hy⟩
  have HOR := hide hor
  clear hor HXY
  go_upto_region 9 with fail
  go_cut [141] (fun t wx => t = .bool false ∧ Below w10.heap.size w10 wx)
  case first =>
    rcases unhide HOR with ⟨rfl, hJ0, hJn, hrn, hvr, hRB⟩ | ⟨rfl, -, rfl, rfl, -, -⟩
    · obtain ⟨sa, sc, hS, q, q'⟩ := slice_from (unhide HAA w10 (unhide HB10)).2.2 hJn
      have hJd : ((J : Nat) : Int) > 0 := by omega
      have hJi : (0 : Int) ≤ ((J : Nat) : Int) := by omega
      have hJi2 : ((J : Nat) : Int) ≤ ((n : Nat) : Int) := by omega
      have hrn2 : n - J = rn := by omega
      rw [hrn2] at hS q q'
      have HSL := hide hS
      have HRB := hide hRB
      clear hS hRB hvr hrn hrn2 hJn hJ0
      go_wp2_with fail
      refine (rSame_any x x _ _ _ _ w10 (unhide HX10) (unhide HY10) (unhide HSMX)).mono ?_
      rintro e w11 ⟨rfl, hb11⟩
      rw [sameF_self]
      have HB11 := hide hb11
      have HSL11 := hide ((unhide HSL).laterW hb11)
      have HRB11 := hide ((unhide HRB).laterW hb11)
      clear hb11
      go_wp2_with fail
      refine (wSame_true _ _ (bs.drop J) _ (unhide HRB11) (unhide HSL11)).mono ?_
      rintro e w12 ⟨rfl, hw⟩
      rw [hw]
      clear hw w12
      go_wp2_with fail
      go_meet
      exact ⟨rfl, unhide HB11⟩
    · go_wp2_with fail
      refine (rSame_any x x _ _ _ _ w10 (unhide HX10) (unhide HY10) (unhide HSMX)).mono ?_
      rintro e w11 ⟨rfl, hb11⟩
      rw [sameF_self]
      have HB11 := hide hb11
      clear hb11
      go_wp2_with fail
      go_meet
      exact ⟨rfl, unhide HB11⟩
  obtain ⟨rfl, hb11⟩ := hcut
  have HB11 := hide ((unhide HB10).trans (hb11.mono (unhide HB10).size))
  have HY11 := hide ((unhide HY10).later hb11)
  have HOR2 : Hid ((er = 0 ∧ 0 < J ∧ J ≤ n ∧ FReads bs x J) ∨ (er = 30 ∧ NoFrag bs ∧ J = 0)) := by
    rcases unhide HOR with ⟨h0, hJ0, hJn, hrn, hvr, -⟩ | ⟨h0, h1, h2, -⟩
    · exact .inl ⟨h0, hJ0, hJn, hvr⟩
    · exact .inr ⟨h0, h1, h2⟩
  clear hb11 HOR HB10 HX10 HY10
  go_wp2_with fail
  refine (fParse_any a n c bs _ (unhide HAA _ (unhide HB11)).2.2 (by have := unhide HN; omega)).mono ?_
  rintro e w12 ⟨p, pa2, pn2, pc2, er2, rfl, hp, hb12, hor2⟩
  have HB12 := hide ((unhide HB11).trans (hb12.mono (unhide HB11).size))
  have HY12 := hide ((unhide HY11).later hb12)
  have HP12 := hide (hp.wider (B' := fun _ => True) fun _ _ => trivial)
  have HW2 : Hid ((er2 = 0 ∧ 0 < J ∧ J = n ∧ p = x) ∨ (er2 = 30 ∧ (J = 0 ∨ J < n) ∧ pn2 = 0)) := by
    rcases hor2 with ⟨h0, hv⟩ | ⟨h30, hno, -, hpn⟩
    · rcases unhide HOR2 with ⟨-, hJ0, hJn, hv2⟩ | ⟨-, hno, -⟩
      · obtain ⟨rfl, h2⟩ := hv.same hv2
        exact .inl ⟨h0, hJ0, by rw [← h2, unhide HBL], rfl⟩
      · exact absurd hv (hno _ _)
    · refine .inr ⟨h30, ?_, hpn⟩
      rcases unhide HOR2 with ⟨-, hJ0, hJn, hv2⟩ | ⟨-, -, hJ⟩
      · right
        have hbl := unhide HBL
        rcases Nat.lt_or_ge J n with h | h
        · exact h
        · have e : J = bs.length := by omega
          rw [e] at hv2
          exact absurd hv2 (hno _)
      · exact .inl hJ
  clear hp hb12 hor2 HB11 HY11 HOR2
  rcases unhide HW2 with ⟨rfl, hJ0, hJn, rfl⟩ | ⟨rfl, hJ, rfl⟩
  · have q1 : ((J : Nat) : Int) > 0 := by omega
    have q2 : (((J : Nat) : Int) == ((n : Nat) : Int)) = true := by rw [beq_iff_eq]; omega
    clear HW2
    go_wp2_with fail
    refine (rSame_any p p _ _ _ _ _ (unhide HP12) (unhide HY12) (unhide HSMX)).mono ?_
    rintro e w13 ⟨rfl, hb13⟩
    rw [sameF_self]
    have HB13 := hide ((unhide HB12).trans (hb13.mono (unhide HB12).size))
    clear hb13
    go_wp2_with fail
    refine (unhide HAW _ (unhide HB13)).mono ?_
    rintro e w14 ⟨rfl, hb14⟩
    have HB14 := hide hb14
    clear hb14
    go_wp2_with fail
    go_ret
    exact ⟨rfl, unhide HB14⟩
  · clear HW2
    by_cases hJ0 : J = 0
    · subst hJ0
      clear hJ
      go_wp2_with fail
      refine (unhide HAW _ (unhide HB12)).mono ?_
      rintro e w14 ⟨rfl, hb14⟩
      have HB14 := hide hb14
      clear hb14
      go_wp2_with fail
      go_ret
      exact ⟨rfl, unhide HB14⟩
    · have q1 : ((J : Nat) : Int) > 0 := by omega
      have q2 : (((J : Nat) : Int) == ((n : Nat) : Int)) = false := by rw [beq_eq_false_iff_ne]; omega
      clear hJ hJ0
      go_wp2_with fail
      refine (unhide HAW _ (unhide HB12)).mono ?_
      rintro e w14 ⟨rfl, hb14⟩
      have HB14 := hide hb14
      clear hb14
      go_wp2_with fail
      go_ret
      exact ⟨rfl, unhide HB14⟩
end Go.Proofs.Yteggocgfaejmbaa
