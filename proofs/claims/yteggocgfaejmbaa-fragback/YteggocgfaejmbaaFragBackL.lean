/- FragBack of foremanlaw09: its walk. No statement of the seat is proved here. -/
import Derived.Test.YteggocgfaejmbaaBase06
import Derived.Test.YteggocgfaejmbaaBase07
import Derived.Test.YteggocgfaejmbaaBase10
namespace Go.Proofs.Yteggocgfaejmbaa
open Go.RowKit

theorem tookFOk {w : World} {n : Nat} {bs : List UInt8} {e : Ending} {W : World} {l : List FI} {j : Nat} (h : TakeFM w n bs e W) (hv : FReads bs l j) : ∃ (a : Option Addr) (ln c : Nat) (ra : Option Addr) (rc : Nat), e = .returned (.tuple #[.slice a ln c, .slice ra (n - j) rc, .int .i64 0]) ∧ FragAt (fun k => w.heap.size ≤ k) W l (.slice a ln c) ∧ Below w.heap.size w W ∧ Bytes W (.slice ra (n - j) rc) (bs.drop j) := by
  obtain ⟨l', a, ln, c, ra, rn, rc, er, rfl, hF, hb, ⟨rfl, j', hj, hjn, hv', hB⟩ | ⟨_, hN, _⟩⟩ := h
  · obtain ⟨rfl, rfl⟩ := hv'.same hv
    obtain rfl : rn = n - j' := by omega
    exact ⟨a, ln, c, ra, rc, rfl, hF, hb, hB⟩
  · exact absurd hv (hN _ _)
theorem tookFNone {w : World} {n : Nat} {bs : List UInt8} {e : Ending} {W : World} (h : TakeFM w n bs e W) (hN : NoFrag bs) : ∃ (a : Option Addr) (ln c : Nat) (ra : Option Addr) (rn rc : Nat), e = .returned (.tuple #[.slice a ln c, .slice ra rn rc, .int .i64 30]) ∧ Below w.heap.size w W := by
  obtain ⟨l', a, ln, c, ra, rn, rc, er, rfl, hF, hb, ⟨rfl, j', hj, hjn, hv', hB⟩ | ⟨rfl, _⟩⟩ := h
  · exact absurd hv' (hN _ _)
  · exact ⟨a, ln, c, ra, rn, rc, rfl, hb⟩

set_option maxRecDepth 100000 in
set_option maxHeartbeats 8000000 in
theorem backLaw_any (l : List FI) (a0 : Option Addr) (n0 c0 : Nat) (a1 : Option Addr) (na ca : Nat) (aa : List UInt8) (a2 : Option Addr) (nb cb : Nat) (bb : List UInt8) (w : World) (hL : FragAt (fun _ => True) w l (.slice a0 n0 c0)) (h1 : Bytes w (.slice a1 na ca) aa) (h2 : Bytes w (.slice a2 nb cb) bb) :
    Calls Try.prog 4 #[.slice a0 n0 c0, .slice a1 na ca, .slice a2 nb cb] w fun e w' => e = .returned (.bool true) ∧ Below w.heap.size w w' := by
  have HAL := hide (bytes_len h1).1
  have HBL := hide (bytes_len h2).1
  have HAA : Hid (∀ X, Below w.heap.size w X → FragAt (fun _ => True) X l (.slice a0 n0 c0) ∧ Bytes X (.slice a1 na ca) aa ∧ Bytes X (.slice a2 nb cb) bb) := fun X hX => ⟨hL.later hX, h1.laterW hX, h2.laterW hX⟩
  have HAW : Hid (∀ W, Below w.heap.size w W → Calls Try.prog 10 #[] W fun e w' => e = .returned (.bool true) ∧ Below w.heap.size w w') := fun W hW => (awakeF_any W).mono fun e w' ⟨h1, h2⟩ => ⟨h1, hW.trans (h2.mono hW.size)⟩
  clear hL h1 h2
  go_enter Try.func4, Try.ntmps4
  go_wp2_with fail
  refine (few_any l _ _ w (unhide HAA w (Below.refl _ _)).1).mono ?_
  rintro e w1 ⟨⟨f1, rfl, hf1⟩, hb1⟩
  have HB1 := hide hb1
  clear hb1 hf1
  cases f1 with
  | false =>
    go_wp2_with fail
    refine (unhide HAW _ (unhide HB1)).mono ?_
    rintro e w2 ⟨rfl, hb2⟩
    have HB2 := hide hb2
    clear hb2
    go_wp2_with fail
    go_ret
    exact ⟨rfl, unhide HB2⟩
  | true =>
  by_cases hna : na > 40
  · have p1 : ((na : Nat) : Int) > 40 := by omega
    clear hna
    go_wp2_with fail
    refine (unhide HAW _ (unhide HB1)).mono ?_
    rintro e w3 ⟨rfl, hb3⟩
    have HB3 := hide hb3
    clear hb3
    go_wp2_with fail
    go_ret
    exact ⟨rfl, unhide HB3⟩
  have p1 : ¬ ((na : Nat) : Int) > 40 := by omega
  by_cases hnb : nb > 40
  · have p2 : ((nb : Nat) : Int) > 40 := by omega
    clear hna hnb
    go_wp2_with fail
    refine (unhide HAW _ (unhide HB1)).mono ?_
    rintro e w3 ⟨rfl, hb3⟩
    have HB3 := hide hb3
    clear hb3
    go_wp2_with fail
    go_ret
    exact ⟨rfl, unhide HB3⟩
  have p2 : ¬ ((nb : Nat) : Int) > 40 := by omega
  have HLM : Hid (na ≤ 40 ∧ nb ≤ 40) := ⟨by omega, by omega⟩
  clear hna hnb
  go_upto_region 3 with fail
  clear p1 p2
  go_wp2_with fail
  refine (fBytes_any l _ _ _ (unhide HAA _ (unhide HB1)).1).mono ?_
  rintro e w3 ⟨pa, pn, pc, e1, r1, rfl, hp1, hb3, ho1⟩
  have HP3 := hide hp1
  have HO1 : Hid ((rightF l = true ∧ e1 = 0 ∧ r1 = bytesF l) ∨ (rightF l = false ∧ e1 = 2 ∧ pn = 0)) := by
    rcases ho1 with ⟨h1, h2, h3, -⟩ | ⟨h1, h2, -, h4⟩
    · exact .inl ⟨h1, h2, h3⟩
    · exact .inr ⟨h1, h2, h4⟩
  have HB3 := hide ((unhide HB1).trans (hb3.mono (unhide HB1).size))
  clear hp1 ho1 hb3 HB1
  go_wp2_with fail
  refine (fRight_any l _ _ w3 (unhide HAA w3 (unhide HB3)).1).mono ?_
  rintro e w4 ⟨rfl, hb4⟩
  have HB4 := hide ((unhide HB3).trans (hb4.mono (unhide HB3).size))
  have HP4 := hide ((unhide HP3).laterW hb4)
  clear hb4 HP3 HB3
  rcases unhide HO1 with ⟨hr, rfl, rfl⟩ | ⟨hr, rfl, rfl⟩
  case inr =>
    rw [hr]
    clear HO1 hr HP4
    go_wp2_with fail
    refine (unhide HAW _ (unhide HB4)).mono ?_
    rintro e w5 ⟨rfl, hb5⟩
    have HB5 := hide hb5
    clear hb5
    go_wp2_with fail
    go_ret
    exact ⟨rfl, unhide HB5⟩
  rw [hr]
  have HRT := hide hr
  have HPN : Hid ((bytesF l).length = pn ∧ pn ≤ 31000) := ⟨(bytes_len (unhide HP4)).1, by rw [← (bytes_len (unhide HP4)).1]; exact bytesF_le hr⟩
  clear HO1 hr
  go_wp2_with fail
  refine (fPut_any l _ _ a1 na ca aa _ (unhide HAA _ (unhide HB4)).1 (unhide HRT) (unhide HAA _ (unhide HB4)).2.1 (by have := unhide HAL; have := unhide HLM; omega)).mono ?_
  rintro e W5 ⟨ta, tn, tc, rfl, hO⟩
  have HB5 := hide ((unhide HB4).trans (hO.bb.mono (unhide HB4).size))
  have HP5 := hide ((unhide HP4).laterW hO.bb)
  have HQ5 := hide hO.fresh.1.1
  clear hO HP4
  obtain ⟨ti, hti, hz0, hz1, hz2⟩ := infoByte
  have HO5 : Hid (Own W5 (.slice (some ⟨W5.heap.size, 0, none⟩) 0 0) [] (W5.alloc (.cells #[] 5))) := ⟨own_nil W5, fun k hk => by simp [Value.ownBlock] at hk; omega, (Below.refl _ W5).alloc (Nat.le_refl _) _⟩
  have HA5 := hide ((unhide HAA _ (unhide HB5)).2.1.alloc (.cells #[] 5))
  go_wp2_with (at_builtin; refine wpList_append_bytes_w _ (by simp [Region.wanted, yielded]) (.tmp 56) (.tmp 57) 23 rfl 5 ti (.int .u8 0) Try.underlying23 hti hz0 hz1 hz2 rfl _ [] rfl (unhide HO5).own _ aa rfl (unhide HA5) (by have := unhide HAL; have := unhide HLM; simp; omega) ?_)
  rintro v6 W6 r1 r2 r3
  have HO6 := hide ((unhide HO5).grown (cs := aa) (by simpa using r1) r2 (by simpa using r3))
  have HP6 := hide ((unhide HP5).laterW (unhide HO6).bb)
  clear r1 r2 r3 HO5 HA5
  go_wp2_with (at_builtin; refine wpList_append_bytes_w _ (by simp [Region.wanted, yielded]) (.tmp 58) (.tmp 59) 23 rfl 5 ti (.int .u8 0) Try.underlying23 hti hz0 hz1 hz2 rfl _ aa rfl (unhide HO6).own _ (bytesF l) rfl (unhide HP6) (by have := unhide HAL; have := unhide HLM; have := unhide HPN; omega) ?_)
  rintro v7 W7 r1 r2 r3
  have hO7 := (unhide HO6).grown (cs := aa ++ bytesF l) (by simpa using r1) r2 (by simpa using r3)
  have HB7 := hide ((unhide HB5).trans (hO7.bb.mono (unhide HB5).size))
  have HP7 := hide ((unhide HP5).laterW hO7.bb)
  have HQ7 := hide ((unhide HQ5).laterW hO7.bb)
  have HS7 := hide hO7.fresh.1.1
  clear r1 r2 r3 HO6 HP6 HP5 HQ5 HB5 hO7
  go_wp2_with fail
  refine (wSame_true _ _ (aa ++ bytesF l) _ (unhide HQ7) (unhide HS7)).mono ?_
  rintro e W8 ⟨rfl, hw⟩
  rw [hw]
  clear hw W8 HQ7 HS7
  go_upto_region 8 with fail
  have HA9 : Hid (∀ X, Below W7.heap.size W7 X → FragAt (fun _ => True) X l (.slice a0 n0 c0) ∧ Bytes X (.slice pa pn pc) (bytesF l) ∧ Bytes X (.slice a2 nb cb) bb) := fun X hX => by
    have h := unhide HAA X ((unhide HB7).trans (hX.mono (unhide HB7).size))
    exact ⟨h.1, (unhide HP7).laterW hX, h.2.2⟩
  clear HAA HP7
  have HO9 : Hid (Own W7 (.slice (some ⟨W7.heap.size, 0, none⟩) 0 0) [] (W7.alloc (.cells #[] 5))) := ⟨own_nil W7, fun k hk => by simp [Value.ownBlock] at hk; omega, (Below.refl _ W7).alloc (Nat.le_refl _) _⟩
  have HP9 := hide ((unhide HA9 W7 (Below.refl _ _)).2.1.alloc (.cells #[] 5))
  go_wp2_with (at_builtin; refine wpList_append_bytes _ rfl (.tmp 64) (.tmp 65) 23 rfl 5 ti (.int .u8 0) Try.underlying23 hti hz0 hz1 hz2 rfl _ [] rfl (unhide HO9).own _ (bytesF l) rfl (unhide HP9) (by have := unhide HPN; simp; omega) ?_)
  rintro v10 W10 r1 r2 r3
  have HO10 := hide ((unhide HO9).grown (cs := bytesF l) (by simpa using r1) r2 (by simpa using r3))
  have HP10 := hide (unhide HA9 _ (unhide HO10).bb).2.2
  clear r1 r2 r3 HO9 HP9
  go_wp2_with (at_builtin; refine wpList_append_bytes _ rfl (.tmp 66) (.tmp 67) 23 rfl 5 ti (.int .u8 0) Try.underlying23 hti hz0 hz1 hz2 rfl _ (bytesF l) rfl (unhide HO10).own _ bb rfl (unhide HP10) (by have := unhide HPN; have := unhide HBL; have := unhide HLM; omega) ?_)
  rintro v11 W12 r1 r2 r3
  have hO12 := (unhide HO10).grown (cs := bytesF l ++ bb) (by simpa using r1) r2 (by simpa using r3)
  clear r1 r2 r3 HO10 HP10
  obtain ⟨g, gc, rfl, hgc, hg1, hg2⟩ := own_form hO12 (by have := bytesF_pos l; rw [List.length_append]; omega)
  obtain ⟨M, hM⟩ : ∃ M, M = pn + nb := ⟨_, rfl⟩
  have hML : (bytesF l ++ bb).length = M := by rw [List.length_append, (unhide HPN).1, unhide HBL, hM]
  rw [hML] at hgc hO12 ⊢
  have hM30 : M ≤ 40000 := by have := unhide HPN; have := unhide HLM; omega
  have HO12 := hide hO12
  have HG1 := hide hg1
  have HG2 := hide hg2
  have HMD := hide hM
  have HML := hide hML
  have HGC := hide hgc
  clear hO12 hg1 hg2 hM hML hgc
  go_wp2_with fail
  refine (fTake_any _ M gc _ W12 (unhide HO12).fresh.1.1 (by omega)).mono ?_
  rintro e W13 hTK
  obtain ⟨xa, xn, xc, ra, rc, rfl, hx, hb13, hR⟩ := tookFOk hTK (FReads.of (r := bb) (unhide HRT) rfl)
  have hMn : M - (bytesF l).length = nb := by rw [(unhide HPN).1, unhide HMD]; omega
  rw [List.drop_left' rfl, hMn] at hR
  rw [hMn]
  have HB13 : Hid (Below W7.heap.size W7 W13) := (unhide HO12).bb.trans (hb13.mono (unhide HO12).bb.size)
  have HO13 := hide ((unhide HO12).later hb13)
  have HX13 := hide hx
  have HR13 := hide hR
  have HSZ : Hid (g < W12.heap.size ∧ W12.heap.size ≤ W13.heap.size) := ⟨unhide HG2, hb13.size⟩
  clear hTK hb13 hx hR hMn HO12 HG2
  go_wp2_with fail
  refine (fSame_any l l _ _ _ _ _ (unhide HA9 _ (unhide HB13)).1 (unhide HX13)).mono ?_
  rintro e W14 ⟨rfl, hb14⟩
  rw [sameF_self]
  have HB14 := hide ((unhide HB13).trans (hb14.mono (unhide HB13).size))
  have HO14 := hide ((unhide HO13).later hb14)
  have HX14 := hide ((unhide HX13).later hb14)
  have HR14 := hide ((unhide HR13).laterW hb14)
  clear hb14 HB13 HO13 HX13 HR13
  go_wp2_with fail
  refine (wSame_true _ _ bb _ (unhide HR14) (unhide HA9 _ (unhide HB14)).2.2).mono ?_
  rintro e W15 ⟨rfl, hw⟩
  rw [hw]
  clear hw W15 HR14
  go_wp2_with fail
  refine (fRight_any l _ _ _ (unhide HX14)).mono ?_
  rintro e W15 ⟨rfl, hb15⟩
  rw [unhide HRT]
  have HB15 := hide ((unhide HB14).trans (hb15.mono (unhide HB14).size))
  have HO15 := hide ((unhide HO14).later hb15)
  have HX15 := hide ((unhide HX14).later hb15)
  clear hb15 HB14 HO14 HX14
  have HYR : Hid (∃ ys : List UInt8, ys.length = M ∧ W15.ownsRow 0 5 1 (.slice (some ⟨g, 0, none⟩) M gc) ys.length (ys.map bv)) := ⟨_, unhide HML, (unhide HO15).own⟩
  clear HO15
  go_wp2
  go_loopw [96] (fun k W => ∃ j : Nat, j ≤ M ∧ k = .int .i64 ((j : Nat) : Int) ∧ Only g W15 W ∧ ∃ ys : List UInt8, ys.length = M ∧ W.ownsRow 0 5 1 (.slice (some ⟨g, 0, none⟩) M gc) ys.length (ys.map bv)) (fun k _ => M - (intOf k).toNat)
  case atStart => exact ⟨0, by omega, rfl, Only.refl _ _, unhide HYR⟩
  case round =>
    obtain ⟨j, hj, rfl, hon, ys, hyl, hrow⟩ := hrel
    have HON := hide hon
    clear hon
    by_cases hlt : j < M
    · have hji : ((j : Nat) : Int) < ((M : Nat) : Int) := by omega
      obtain ⟨y1, hcell, hfz, ys', hyl', hrow'⟩ := row_turn hrow hyl hlt
      have hxo := xor255 y1
      have HRW := hide hrow'
      have HYL := hide hyl'
      clear hrow hrow' hyl hyl'
      generalize UInt8.ofNat (y1.toNat ^^^ 255) = y2 at *
      go_wp2_with fail
      exact ⟨⟨j + 1, by omega, by go_num, (unhide HON).set rfl _, ys', unhide HYL, unhide HRW⟩, by simp [intOf]; omega⟩
    · have hji : ¬ ((j : Nat) : Int) < ((M : Nat) : Int) := by omega
      have hb16 : Below W7.heap.size W7 wr := (unhide HB15).trans ((unhide HON).below (unhide HG1))
      have HX16 : Hid (FragAt (fun k => W12.heap.size ≤ k) wr l (.slice xa xn xc)) := (unhide HX15).kept (fun k hk _ => (unhide HON).block k (by have := unhide HSZ; omega)) (fun k hk _ => hk)
      have HB16 := hide hb16
      clear hrow hyl ys HON HYR HB15 hb16 HX15 hlt hj
      generalize wr = W16 at *
      have hpn := (unhide HPN).2
      have hpc := (bytes_len (unhide HA9 W16 (unhide HB16)).2.1).2
      clear hM30
      go_wp2
      go_loopw [108] (fun i W => ∃ j : Nat, j ≤ pn ∧ i = .int .i64 ((j : Nat) : Int) ∧ Below W16.heap.size W16 W) (fun i _ => pn - (intOf i).toNat)
      case atStart => exact ⟨0, by omega, rfl, Below.refl _ _⟩
      case round =>
        obtain ⟨i, hi, rfl, hb⟩ := hrel
        have HB := hide ((unhide HB16).trans (hb.mono (unhide HB16).size))
        have HBR := hide hb
        clear hb
        by_cases hlt : i < pn
        · have hji : ((i : Nat) : Int) < ((pn : Nat) : Int) := by omega
          obtain ⟨q, q'⟩ := head_run (a := pa) (n := pn) (c := pc) (h := i) (by omega)
          have HBT := hide ((unhide HA9 _ (unhide HB)).2.1.take (m := i) hi (unhide HPN).1)
          have HNV : Hid (NoFrag ((bytesF l).take i)) := noFrag_less (unhide HRT) (by rw [(unhide HPN).1]; exact hlt)
          by_cases h7 : i % 5 = 0
          · skip
            go_wp2_with fail
            refine (fTake_any _ i pc _ _ (unhide HBT) (by omega)).mono ?_
            rintro e W18 hTK
            obtain ⟨_, _, _, _, _, _, rfl, hb18⟩ := tookFNone hTK (unhide HNV)
            have HB18 := hide ((unhide HBR).trans (hb18.mono (unhide HBR).size))
            clear hTK hb18 HBT q q' HBR HB
            go_wp2_with fail
            exact ⟨⟨i + 1, by omega, by go_num, unhide HB18⟩, by simp [intOf]; omega⟩
          · by_cases h9 : ((pn : Nat) : Int) - ((i : Nat) : Int) < 6
            · have h9d : decide (((pn : Nat) : Int) - ((i : Nat) : Int) < 6) = true := decide_eq_true h9
              go_wp2_with fail
              refine (fTake_any _ i pc _ _ (unhide HBT) (by omega)).mono ?_
              rintro e W18 hTK
              obtain ⟨_, _, _, _, _, _, rfl, hb18⟩ := tookFNone hTK (unhide HNV)
              have HB18 := hide ((unhide HBR).trans (hb18.mono (unhide HBR).size))
              clear hTK hb18 HBT q q' HBR HB
              go_wp2_with fail
              exact ⟨⟨i + 1, by omega, by go_num, unhide HB18⟩, by simp [intOf]; omega⟩
            · have h9d : decide (((pn : Nat) : Int) - ((i : Nat) : Int) < 6) = false := decide_eq_false h9
              have HBR2 := hide (unhide HBR)
              clear HBT q q'
              go_wp2_with fail
              exact ⟨⟨i + 1, by omega, by go_num, unhide HBR2⟩, by simp [intOf]; omega⟩
        · have hji : ¬ ((i : Nat) : Int) < ((pn : Nat) : Int) := by omega
          have HX18 := hide ((unhide HX16).later (unhide HBR))
          clear HBR
          go_wp2_with fail
          refine (fSame_any l l _ _ _ _ _ (unhide HA9 _ (unhide HB)).1 (unhide HX18)).mono ?_
          rintro e W17 ⟨rfl, hb17⟩
          rw [sameF_self]
          have HB17 := hide ((unhide HB).trans (hb17.mono (unhide HB).size))
          clear hb17 HX18
          go_wp2_with fail
          refine (unhide HAW _ ((unhide HB7).trans ((unhide HB17).mono (unhide HB7).size))).mono ?_
          rintro e W18 ⟨rfl, hb18⟩
          have HB18 := hide hb18
          clear hb18
          go_wp2_with fail
          go_ret
          exact ⟨rfl, unhide HB18⟩
end Go.Proofs.Yteggocgfaejmbaa
