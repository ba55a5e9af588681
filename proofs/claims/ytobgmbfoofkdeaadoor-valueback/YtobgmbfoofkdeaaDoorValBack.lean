/- ValueBack of foremanlaw08: its walk. No statement of the seat is proved here. -/
import Derived.Test.YtobgmbfoofkdeaaDoorValForms
import Derived.Test.YtobgmbfoofkdeaaDoorGenOnly
namespace Go.Proofs.YtobgmbfoofkdeaaDoor
open Go.RowKit

set_option maxRecDepth 100000 in
set_option maxHeartbeats 4000000 in
theorem backLaw_any (a1 a2 : Option Addr) (na ca nb cb : Nat) (aa bb : List UInt8) (v : VD) (u : Value) (w : World) (hA : v.At (fun _ => True) w u) (h1 : Bytes w (.slice a1 na ca) aa) (h2 : Bytes w (.slice a2 nb cb) bb) (hT : Tab w) : Calls Tryd.prog 4 #[u, .slice a1 na ca, .slice a2 nb cb] w fun e w' => e = .returned (.bool true) ∧ Below w.heap.size w w' := by
  have hal : aa.length = na := (bytes_len h1).1
  have hbl : bb.length = nb := (bytes_len h2).1
  have hfit := hA.fits
  obtain ⟨K, m, cc, N, z, l, rfl⟩ := hA.form
  obtain ⟨W1, hW1⟩ : ∃ W1, W1 = w.alloc (.cells #[.int .u8 ((K : Nat) : Int), .int .i64 N, .string z, .slice l m cc] 24) := ⟨_, rfl⟩
  have hb1 : Below w.heap.size w W1 := by rw [hW1]; exact (Below.refl _ w).alloc (Nat.le_refl _) _
  have hr1 : W1.heap[w.heap.size]? = some (.cells #[.int .u8 ((K : Nat) : Int), .int .i64 N, .string z, .slice l m cc] 24 (0, 0)) := by rw [hW1]; exact heap_alloc_new w _
  have HAA : Hid (∀ X, Below W1.heap.size W1 X → v.At (fun _ => True) X (.agg #[.int .u8 ((K : Nat) : Int), .int .i64 N, .string z, .slice l m cc]) ∧ Bytes X (.slice a1 na ca) aa ∧ Bytes X (.slice a2 nb cb) bb ∧ Tab X) := fun X hX => ⟨(hA.later hb1).later hX, (h1.laterW hb1).laterW hX, (h2.laterW hb1).laterW hX, (hT.later hb1).later hX⟩
  have HKS : Hid (∀ X, Below W1.heap.size W1 X → X.cell? ⟨w.heap.size, 0, none⟩ = some (.int .u8 ((K : Nat) : Int)) ∧ X.cell? ⟨w.heap.size, 1, none⟩ = some (.int .i64 N) ∧ X.cell? ⟨w.heap.size, 2, none⟩ = some (.string z) ∧ X.cell? ⟨w.heap.size, 3, none⟩ = some (.slice l m cc)) := fun X hX => (cells4 ((hX.block _ (lt_rowV hr1)).trans hr1)).1
  have HB1 := hide hb1
  have HW1 := hide hW1
  have HAL := hide hal
  have HBL := hide hbl
  have HFIT := hide hfit
  clear hA hT h1 h2 hW1 hb1 hr1 hal hbl hfit
  go_enter Tryd.func4, Tryd.ntmps4
  go_upto_region 1 with fail
  rw [← unhide HW1]
  clear HW1
  obtain ⟨a0, a1', a2', a3⟩ := unhide HKS W1 (Below.refl _ _)
  go_cut [31] (fun t wx => (∃ r : Bool, t = .bool r ∧ (r = false → na ≤ 40 ∧ nb ≤ 40 ∧ (v.deep ≤ 20 ∧ v.parts ≤ 600))) ∧ Below W1.heap.size W1 wx)
  case first =>
    go_wp2_with fail
    refine (vFewTop_any v _ _ _ (unhide HAA W1 (Below.refl _ _)).1).mono ?_
    rintro e W2 ⟨⟨q, rfl, hq⟩, hb2⟩
    have HQ := hide hq
    have HB2 := hide hb2
    clear hq hb2 a0 a1' a2' a3
    cases q with
    | false =>
      go_wp2_with fail
      go_meet
      exact ⟨⟨true, rfl, fun h => by cases h⟩, unhide HB2⟩
    | true =>
      by_cases hn : ((na : Nat) : Int) > 40
      · have hnd : decide (((na : Nat) : Int) > 40) = true := decide_eq_true hn
        go_wp2_with fail
        go_meet
        exact ⟨⟨true, by simp, fun h => by cases h⟩, unhide HB2⟩
      · have hnd : decide (((na : Nat) : Int) > 40) = false := decide_eq_false hn
        have HN1 : Hid (na ≤ 40) := by show _ ≤ _; omega
        clear hn
        by_cases hn : ((nb : Nat) : Int) > 40
        · have hnd2 : decide (((nb : Nat) : Int) > 40) = true := decide_eq_true hn
          go_wp2_with fail
          go_meet
          exact ⟨⟨true, by simp, fun h => by cases h⟩, unhide HB2⟩
        · have hnd2 : decide (((nb : Nat) : Int) > 40) = false := decide_eq_false hn
          have HN2 : Hid (nb ≤ 40) := by show _ ≤ _; omega
          clear hn
          go_wp2_with fail
          go_meet
          exact ⟨⟨false, by simp, fun _ => ⟨unhide HN1, unhide HN2, unhide HQ trivial⟩⟩, unhide HB2⟩
  obtain ⟨⟨r, rfl, hr⟩, hb2⟩ := hcut
  have HR := hide hr
  have HB2 := hide hb2
  clear hr hb2 a0 a1' a2' a3
  cases r with
  | true =>
    go_wp2_with fail
    refine (awake_any wc (unhide HAA wc (unhide HB2)).2.2.2).mono ?_
    rintro e W3 ⟨rfl, hb3⟩
    have HB3 := hide ((unhide HB1).trans (((unhide HB2).trans (hb3.mono (unhide HB2).size)).mono (unhide HB1).size))
    clear hb3
    go_wp2_with fail
    go_ret
    exact ⟨rfl, unhide HB3⟩
  | false =>
    have HLM := hide (unhide HR rfl)
    have HV : Hid (v.deep ≤ 1000 ∧ v.parts ≤ 1000000) := by have := unhide HLM; exact ⟨by omega, by omega⟩
    clear HR
    obtain ⟨a0, a1', a2', a3⟩ := unhide HKS wc (unhide HB2)
    go_wp2_with fail
    refine (vBytes_any v _ _ _ (unhide HAA _ (unhide HB2)).1).mono ?_
    rintro e W3 hB3
    obtain ⟨pa, pn, pc, e1, r1, rfl, hp1, hb3, ho1⟩ := bytesForm hB3
    have HB3 := hide ((unhide HB2).trans (hb3.mono (unhide HB2).size))
    have HP3 := hide hp1
    have HO1 := hide ho1
    clear hB3 hp1 hb3 ho1 a0 a1' a2' a3
    obtain ⟨a0, a1', a2', a3⟩ := unhide HKS _ (unhide HB3)
    go_wp2_with fail
    refine (right_any v _ _ _ (unhide HAA _ (unhide HB3)).1).mono ?_
    rintro e W4 ⟨rfl, hb4⟩
    have HB4 := hide ((unhide HB3).trans (hb4.mono (unhide HB3).size))
    have HP4 := hide ((unhide HP3).laterW hb4)
    clear hb4 HP3 a0 a1' a2' a3
    rcases unhide HO1 with ⟨hr, rfl, rfl⟩ | ⟨hr, rfl, -, rfl⟩
    case inr =>
      rw [hr]
      clear HO1 hr HP4
      go_wp2_with fail
      refine (awake_any _ (unhide HAA _ (unhide HB4)).2.2.2).mono ?_
      rintro e W5 ⟨rfl, hb5⟩
      have HB5 := hide ((unhide HB1).trans (((unhide HB4).trans (hb5.mono (unhide HB4).size)).mono (unhide HB1).size))
      clear hb5
      go_wp2_with fail
      go_ret
      exact ⟨rfl, unhide HB5⟩
    rw [hr]
    have HRT := hide hr
    have HPN : Hid (v.bytes.length = pn ∧ pn ≤ 26000) := ⟨(bytes_len (unhide HP4)).1, by rw [← (bytes_len (unhide HP4)).1]; exact VD.right_bytes_le hr (unhide HFIT)⟩
    obtain ⟨a0, a1', a2', a3⟩ := unhide HKS _ (unhide HB4)
    clear HO1 hr
    go_wp2_with fail
    refine (vPut_any v _ _ a1 na ca aa _ (unhide HAA _ (unhide HB4)).1 (unhide HRT) (unhide HAA _ (unhide HB4)).2.1 (by have := unhide HAL; have := unhide HLM; omega)).mono ?_
    rintro e W5 ⟨r, rfl, hO⟩
    have hp5 := hO.fresh.1.1
    obtain ⟨ta, tc, rfl, _⟩ := hp5.form
    obtain ⟨tn, htn⟩ : ∃ tn, tn = (aa ++ v.bytes).length := ⟨_, rfl⟩
    rw [← htn] at hp5 ⊢
    have HB5 := hide ((unhide HB4).trans (hO.bb.mono (unhide HB4).size))
    have HP5 := hide ((unhide HP4).laterW hO.bb)
    have HQ5 := hide hp5
    have HTN := hide htn
    clear hO hp5 htn HP4 a0 a1' a2' a3
    obtain ⟨ti, hti, hz0, hz1, hz2⟩ := infoByte
    have HO5 : Hid (Own W5 (.slice (some ⟨W5.heap.size, 0, none⟩) 0 0) [] (W5.alloc (.cells #[] 5))) := ⟨own_nil W5, fun k hk => by simp [Value.ownBlock] at hk; omega, (Below.refl _ W5).alloc (Nat.le_refl _) _⟩
    have HA5 := hide ((unhide HAA _ (unhide HB5)).2.1.alloc (.cells #[] 5))
    go_wp2_with (at_builtin; refine wpList_append_bytes_w _ (by simp [Region.wanted, yielded]) (.tmp 58) (.tmp 59) 25 rfl 5 ti (.int .u8 0) Tryd.underlying25 hti hz0 hz1 hz2 rfl _ [] rfl (unhide HO5).own _ aa rfl (unhide HA5) (by have := unhide HAL; have := unhide HLM; simp; omega) ?_)
    rintro v6 W6 r1 r2 r3
    have HO6 := hide ((unhide HO5).grown (cs := aa) (by simpa using r1) r2 (by simpa using r3))
    have HP6 := hide ((unhide HP5).laterW (unhide HO6).bb)
    clear r1 r2 r3 HO5 HA5
    go_wp2_with (at_builtin; refine wpList_append_bytes_w _ (by simp [Region.wanted, yielded]) (.tmp 60) (.tmp 61) 25 rfl 5 ti (.int .u8 0) Tryd.underlying25 hti hz0 hz1 hz2 rfl _ aa rfl (unhide HO6).own _ v.bytes rfl (unhide HP6) (by have := unhide HAL; have := unhide HLM; have := unhide HPN; omega) ?_)
    rintro v7 W7 r1 r2 r3
    have hO7 := (unhide HO6).grown (cs := aa ++ v.bytes) (by simpa using r1) r2 (by simpa using r3)
    have HB7 := hide ((unhide HB5).trans (hO7.bb.mono (unhide HB5).size))
    have HP7 := hide ((unhide HP5).laterW hO7.bb)
    have HQ7 := hide ((unhide HQ5).laterW hO7.bb)
    have HS7 := hide hO7.fresh.1.1
    clear r1 r2 r3 HO6 HP6 HP5 HQ5 HB5 hO7
    go_wp2_with fail
    refine (wSame_true _ _ (aa ++ v.bytes) _ (unhide HQ7) (unhide HS7)).mono ?_
    rintro e W8 ⟨rfl, hw⟩
    rw [hw]
    clear hw W8 HQ7 HS7 HTN
    go_upto_region 9 with fail
    have HA9 : Hid (∀ X, Below W7.heap.size W7 X → v.At (fun _ => True) X (.agg #[.int .u8 ((K : Nat) : Int), .int .i64 N, .string z, .slice l m cc]) ∧ Bytes X (.slice pa pn pc) v.bytes ∧ Bytes X (.slice a2 nb cb) bb ∧ Tab X) := fun X hX => by
      have h := unhide HAA X ((unhide HB7).trans (hX.mono (unhide HB7).size))
      exact ⟨h.1, (unhide HP7).laterW hX, h.2.2.1, h.2.2.2⟩
    have HK9 : Hid (∀ X, Below W7.heap.size W7 X → X.cell? ⟨w.heap.size, 0, none⟩ = some (.int .u8 ((K : Nat) : Int)) ∧ X.cell? ⟨w.heap.size, 1, none⟩ = some (.int .i64 N) ∧ X.cell? ⟨w.heap.size, 2, none⟩ = some (.string z) ∧ X.cell? ⟨w.heap.size, 3, none⟩ = some (.slice l m cc)) := fun X hX => unhide HKS X ((unhide HB7).trans (hX.mono (unhide HB7).size))
    have HL9 : Hid (w.heap.size < W7.heap.size) := World.block_lt_of_cell? _ _ (unhide HK9 W7 (Below.refl _ _)).1
    clear HAA HKS HP7
    have HO9 : Hid (Own W7 (.slice (some ⟨W7.heap.size, 0, none⟩) 0 0) [] (W7.alloc (.cells #[] 5))) := ⟨own_nil W7, fun k hk => by simp [Value.ownBlock] at hk; omega, (Below.refl _ W7).alloc (Nat.le_refl _) _⟩
    have HP9 := hide ((unhide HA9 W7 (Below.refl _ _)).2.1.alloc (.cells #[] 5))
    go_wp2_with (at_builtin; refine wpList_append_bytes _ rfl (.tmp 66) (.tmp 67) 25 rfl 5 ti (.int .u8 0) Tryd.underlying25 hti hz0 hz1 hz2 rfl _ [] rfl (unhide HO9).own _ v.bytes rfl (unhide HP9) (by have := unhide HPN; simp; omega) ?_)
    rintro v10 W10 r1 r2 r3
    have HO10 := hide ((unhide HO9).grown (cs := v.bytes) (by simpa using r1) r2 (by simpa using r3))
    have HP10 := hide (unhide HA9 _ (unhide HO10).bb).2.2.1
    clear r1 r2 r3 HO9 HP9
    go_wp2_with (at_builtin; refine wpList_append_bytes _ rfl (.tmp 68) (.tmp 69) 25 rfl 5 ti (.int .u8 0) Tryd.underlying25 hti hz0 hz1 hz2 rfl _ v.bytes rfl (unhide HO10).own _ bb rfl (unhide HP10) (by have := unhide HPN; have := unhide HBL; have := unhide HLM; omega) ?_)
    rintro v11 W12 r1 r2 r3
    have hO12 := (unhide HO10).grown (cs := v.bytes ++ bb) (by simpa using r1) r2 (by simpa using r3)
    clear r1 r2 r3 HO10 HP10
    obtain ⟨g, gc, rfl, hgc, hg1, hg2⟩ := own_form hO12 (by have := (vreads_right (v := v) [] (unhide HRT) (unhide HFIT)).pos; rw [List.length_append]; omega)
    obtain ⟨M, hM⟩ : ∃ M, M = pn + nb := ⟨_, rfl⟩
    have hML : (v.bytes ++ bb).length = M := by rw [List.length_append, (unhide HPN).1, unhide HBL, hM]
    rw [hML] at hgc hO12 ⊢
    have hM30 : M ≤ 30000 := by have := unhide HPN; have := unhide HLM; omega
    have HO12 := hide hO12
    have HG1 := hide hg1
    have HG2 := hide hg2
    have HMD := hide hM
    have HML := hide hML
    have HGC := hide hgc
    clear hO12 hg1 hg2 hM hML hgc
    go_wp2_with fail
    refine (vTake_any _ M gc _ W12 (unhide HO12).fresh.1.1 (by omega)).mono ?_
    rintro e W13 ⟨hTK, hb13⟩
    obtain ⟨kX, mX, cX, nX, zX, aX, ra, rc, rfl, hx, hR⟩ := tookOk hTK (vreads_right bb (unhide HRT) (unhide HFIT))
    have hMn : M - v.bytes.length = nb := by rw [(unhide HPN).1, unhide HMD]; omega
    rw [List.drop_left' rfl, hMn] at hR
    rw [hMn]
    obtain ⟨W14, hW14⟩ : ∃ W14, W14 = W13.alloc (.cells #[.int .u8 ((kX : Nat) : Int), .int .i64 nX, .string zX, .slice aX mX cX] 24) := ⟨_, rfl⟩
    have hb1314 : Below W13.heap.size W13 W14 := by rw [hW14]; exact (Below.refl _ _).alloc (Nat.le_refl _) _
    have hg14 : W14.heap[W13.heap.size]? = some (.cells #[.int .u8 ((kX : Nat) : Int), .int .i64 nX, .string zX, .slice aX mX cX] 24 (0, 0)) := by rw [hW14]; exact heap_alloc_new _ _
    have hb1214 : Below W12.heap.size W12 W14 := hb13.trans (hb1314.mono hb13.size)
    have HB14 : Hid (Below W7.heap.size W7 W14) := (unhide HO12).bb.trans (hb1214.mono (unhide HO12).bb.size)
    have HO14 := hide ((unhide HO12).later hb1214)
    have HX14 := hide (hx.later hb1314)
    have HR14 := hide (hR.laterW hb1314)
    have HG14 := hide hg14
    have HSZ : Hid (g < W12.heap.size ∧ W12.heap.size ≤ W13.heap.size) := ⟨unhide HG2, hb13.size⟩
    have HW14 := hide hW14
    clear hTK hb13 hx hR hMn hW14 hb1314 hg14 hb1214 HO12 HG2
    go_upto_region 11 with fail
    rw [← unhide HW14]
    clear HW14
    have HC1 : Hid (∀ X, Below W14.heap.size W14 X → Calls Tryd.prog 15 #[.agg #[.int .u8 ((K : Nat) : Int), .int .i64 N, .string z, .slice l m cc], .agg #[.int .u8 ((kX : Nat) : Int), .int .i64 nX, .string zX, .slice aX mX cX]] X fun e w' => e = .returned (.bool true) ∧ Below X.heap.size X w') := fun X hX => (same_any v v _ _ _ _ X (unhide HA9 X ((unhide HB14).trans (hX.mono (unhide HB14).size))).1 ((unhide HX14).later hX) (unhide HV).2 (unhide HV).1).mono fun e w' h => by rw [(VD.same_iff v v).2 rfl] at h; exact h
    have HC2 : Hid (∀ X, Below W14.heap.size W14 X → Calls Tryd.prog 17 #[.slice ra nb rc, .slice a2 nb cb] X fun e w' => e = .returned (.bool true) ∧ Below X.heap.size X w') := fun X hX => (wSame_true _ _ bb X ((unhide HR14).laterW hX) (unhide HA9 X ((unhide HB14).trans (hX.mono (unhide HB14).size))).2.2.1).mono fun e w' h => by
      obtain ⟨rfl, rfl⟩ := h
      exact ⟨rfl, Below.refl _ _⟩
    have HC3 : Hid (∀ X, Below W14.heap.size W14 X → Calls Tryd.prog 12 #[.agg #[.int .u8 ((kX : Nat) : Int), .int .i64 nX, .string zX, .slice aX mX cX]] X fun e w' => e = .returned (.bool true) ∧ Below X.heap.size X w') := fun X hX => (right_any v _ _ X ((unhide HX14).later hX)).mono fun e w' h => by rw [unhide HRT] at h; exact h
    obtain ⟨P, hP⟩ : ∃ P, P = v.parts := ⟨_, rfl⟩
    have HC4 : Hid (∀ X, Below W14.heap.size W14 X → Calls Tryd.prog 13 #[.agg #[.int .u8 ((kX : Nat) : Int), .int .i64 nX, .string zX, .slice aX mX cX]] X fun e w' => e = .returned (.int .i64 ((P : Nat) : Int)) ∧ Below X.heap.size X w') := fun X hX => by rw [hP]; exact parts_any v _ _ X ((unhide HX14).later hX) (unhide HV).2 (unhide HV).1
    have HC5 : Hid (∀ X, Below W14.heap.size W14 X → Calls Tryd.prog 13 #[.agg #[.int .u8 ((K : Nat) : Int), .int .i64 N, .string z, .slice l m cc]] X fun e w' => e = .returned (.int .i64 ((P : Nat) : Int)) ∧ Below X.heap.size X w') := fun X hX => by rw [hP]; exact parts_any v _ _ X (unhide HA9 X ((unhide HB14).trans (hX.mono (unhide HB14).size))).1 (unhide HV).2 (unhide HV).1
    clear hP
    obtain ⟨a0, a1', a2', a3⟩ := unhide HK9 W14 (unhide HB14)
    obtain ⟨b0, b1, b2, b3⟩ := (cells4 (unhide HG14)).1
    have hne : Nonempty (Later W14) := ⟨⟨W14, Below.refl _ _⟩⟩
    have l1 := Later.cell a0
    have l2' := Later.cell a1'
    have l3 := Later.cell a2'
    have l4 := Later.cell a3
    have m1 := Later.cell b0
    have m2' := Later.cell b1
    have m3 := Later.cell b2
    have m4 := Later.cell b3
    go_cut [102] (fun t wx => t = .bool false ∧ Below W14.heap.size W14 wx)
    case first =>
      refine wp_region_later (by kernel_rfl) ?_
      repeat (go_big_quiet_step ((rename_i q; first
        | (have _t := q; go_at_call 15; refine (unhide HC1 _ q.2).mono ?_; rintro e w11 ⟨rfl, hb11⟩; exact ⟨rfl, q.then hb11⟩)
        | (go_at_call 17; refine (unhide HC2 _ q.2).mono ?_; rintro e w11 ⟨rfl, hb11⟩; exact ⟨rfl, q.then hb11⟩)
        | (go_at_call 12; refine (unhide HC3 _ q.2).mono ?_; rintro e w11 ⟨rfl, hb11⟩; exact ⟨rfl, q.then hb11⟩)
        | (go_at_call 13; refine (unhide HC4 _ q.2).mono ?_; rintro e w11 ⟨rfl, hb11⟩; exact ⟨rfl, q.then hb11⟩)
        | (go_at_call 13; refine (unhide HC5 _ q.2).mono ?_; rintro e w11 ⟨rfl, hb11⟩; exact ⟨rfl, q.then hb11⟩))))
      refine wpQuiet_nil ?_
      rintro _ ⟨q, rfl⟩
      have HFIN : Hid (Below W14.heap.size W14 q.1) := q.2
      generalize q.1 = W20 at *
      go_wp2_with fail
      go_meet
      exact ⟨rfl, unhide HFIN⟩
    obtain ⟨rfl, hb15⟩ := hcut
    generalize wc = W15 at *
    have HB15 := hide ((unhide HB14).trans (hb15.mono (unhide HB14).size))
    have HO15 := hide ((unhide HO14).later hb15)
    have HX15 := hide ((unhide HX14).later hb15)
    have HG15 := hide ((hb15.block _ (lt_rowV (unhide HG14))).trans (unhide HG14))
    clear hb15 l1 l2' l3 l4 m1 m2' m3 m4 a0 a1' a2' a3 b0 b1 b2 b3 hne HC1 HC2 HC3 HC4 HC5 HO14 HX14 HR14 HG14 HB14
    have HYR : Hid (∃ ys : List UInt8, ys.length = M ∧ W15.ownsRow 0 5 1 (.slice (some ⟨g, 0, none⟩) M gc) ys.length (ys.map bv)) := ⟨_, unhide HML, (unhide HO15).own⟩
    clear HO15
    go_wp2
    go_loopw [105] (fun k W => ∃ j : Nat, j ≤ M ∧ k = .int .i64 ((j : Nat) : Int) ∧ Only g W15 W ∧ ∃ ys : List UInt8, ys.length = M ∧ W.ownsRow 0 5 1 (.slice (some ⟨g, 0, none⟩) M gc) ys.length (ys.map bv)) (fun k _ => M - (intOf k).toNat)
    case atStart => exact ⟨0, by omega, rfl, Only.refl _ _, unhide HYR⟩
    case round =>
      obtain ⟨j, hj, rfl, hon, ys, hyl, hrow⟩ := hrel
      have HON := hide hon
      clear hon
      by_cases hlt : j < M
      · have hji : ((j : Nat) : Int) < ((M : Nat) : Int) := by omega
        obtain ⟨y1, hcell, hfz, ys', hyl', hrow'⟩ := row_turn hrow hyl hlt
        have hxo := xor255 y1
        have HRW := hide hrow'
        have HYL := hide hyl'
        clear hrow hrow' hyl hyl'
        generalize UInt8.ofNat (y1.toNat ^^^ 255) = y2 at *
        go_wp2_with fail
        exact ⟨⟨j + 1, by omega, by go_num, (unhide HON).set rfl _, ys', unhide HYL, unhide HRW⟩, by simp [intOf]; omega⟩
      · have hji : ¬ ((j : Nat) : Int) < ((M : Nat) : Int) := by omega
        have hb16 : Below W7.heap.size W7 wr := (unhide HB15).trans ((unhide HON).below (unhide HG1))
        have HX16 : Hid (v.At (fun k => W12.heap.size ≤ k) wr (.agg #[.int .u8 ((kX : Nat) : Int), .int .i64 nX, .string zX, .slice aX mX cX])) := (unhide HX15).kept (fun k hk _ => (unhide HON).block k (by have := unhide HSZ; omega)) (fun k hk _ => hk)
        have hg16 := ((unhide HON).block W13.heap.size (by have := unhide HSZ; omega)).trans (unhide HG15)
        have HB16 := hide hb16
        obtain ⟨a0, a1', a2', a3⟩ := unhide HK9 wr hb16
        obtain ⟨b0, b1, b2, b3⟩ := (cells4 hg16).1
        clear hrow hyl ys HON HYR HB15 hb16 hg16 HX15 HG15 hlt hj
        generalize wr = W16 at *
        go_wp2_with fail
        refine (same_any v v _ _ _ _ W16 (unhide HA9 W16 (unhide HB16)).1 (unhide HX16) (unhide HV).2 (unhide HV).1).mono ?_
        rintro e W17 ⟨rfl, hb17⟩
        rw [(VD.same_iff v v).2 rfl]
        have HB17 := hide ((unhide HB16).trans (hb17.mono (unhide HB16).size))
        clear hb17 a0 a1' a2' a3 b0 b1 b2 b3 HX16 HB16 hji
        have hpn := (unhide HPN).2
        have hpc := (bytes_len (unhide HA9 W17 (unhide HB17)).2.1).2
        clear hM30
        go_wp2
        go_loopw [121] (fun i W => ∃ j : Nat, j ≤ pn ∧ i = .int .i64 ((j : Nat) : Int) ∧ Below W17.heap.size W17 W) (fun i _ => pn - (intOf i).toNat)
        case atStart => exact ⟨0, by omega, rfl, Below.refl _ _⟩
        case round =>
          obtain ⟨i, hi, rfl, hb⟩ := hrel
          have HB := hide ((unhide HB17).trans (hb.mono (unhide HB17).size))
          have HBR := hide hb
          clear hb
          by_cases hlt : i < pn
          · have hji : ((i : Nat) : Int) < ((pn : Nat) : Int) := by omega
            obtain ⟨q, q'⟩ := head_run (a := pa) (n := pn) (c := pc) (h := i) (by omega)
            have HBT := hide ((unhide HA9 _ (unhide HB)).2.1.take (m := i) hi (unhide HPN).1)
            have HNV : Hid (NoVal (v.bytes.take i) 6) := noVal_less (right_parts (unhide HRT)).1 (by rw [(unhide HPN).1]; exact hlt)
            by_cases h7 : i % 7 = 0
            · skip
              go_wp2_with fail
              refine (vTake_any _ i pc _ _ (unhide HBT) (by omega)).mono ?_
              rintro e W18 ⟨hTK, hb18⟩
              obtain rfl := tookNone hTK (unhide HNV)
              have HB18 := hide ((unhide HBR).trans (hb18.mono (unhide HBR).size))
              clear hTK hb18 HBT q q' HBR HB
              go_wp2_with fail
              exact ⟨⟨i + 1, by omega, by go_num, (unhide HB18).alloc (unhide HB18).size _⟩, by simp [intOf]; omega⟩
            · by_cases h9 : ((pn : Nat) : Int) - ((i : Nat) : Int) < 9
              · have h9d : decide (((pn : Nat) : Int) - ((i : Nat) : Int) < 9) = true := decide_eq_true h9
                go_wp2_with fail
                refine (vTake_any _ i pc _ _ (unhide HBT) (by omega)).mono ?_
                rintro e W18 ⟨hTK, hb18⟩
                obtain rfl := tookNone hTK (unhide HNV)
                have HB18 := hide ((unhide HBR).trans (hb18.mono (unhide HBR).size))
                clear hTK hb18 HBT q q' HBR HB
                go_wp2_with fail
                exact ⟨⟨i + 1, by omega, by go_num, (unhide HB18).alloc (unhide HB18).size _⟩, by simp [intOf]; omega⟩
              · have h9d : decide (((pn : Nat) : Int) - ((i : Nat) : Int) < 9) = false := decide_eq_false h9
                have HBR2 := hide (unhide HBR)
                clear HBT q q'
                go_wp2_with fail
                exact ⟨⟨i + 1, by omega, by go_num, unhide HBR2⟩, by simp [intOf]; omega⟩
          · have hji : ¬ ((i : Nat) : Int) < ((pn : Nat) : Int) := by omega
            clear HBR
            go_wp2_with fail
            refine (awake_any _ (unhide HA9 _ (unhide HB)).2.2.2).mono ?_
            rintro e W18 ⟨rfl, hb18⟩
            have HB18 := hide ((unhide HB1).trans ((((unhide HB7).trans ((unhide HB).mono (unhide HB7).size)).trans (hb18.mono (by have := (unhide HB7).size; have := (unhide HB).size; omega))).mono (unhide HB1).size))
            clear hb18
            go_wp2_with fail
            go_ret
            exact ⟨rfl, unhide HB18⟩
end Go.Proofs.YtobgmbfoofkdeaaDoor
