/- OpOne of foremanlaw10: its walk. No statement of the seat is proved here. -/
import Derived.Test.YtdlbpbglidhlfaaDoorBase13
import Derived.Test.YtdlbpbglidhlfaaDoorBase07
import Derived.BigQuiet
namespace Go.Proofs.YtdlbpbglidhlfaaDoor
open Go.RowKit

set_option maxRecDepth 100000 in
set_option maxHeartbeats 8000000 in
theorem oneLaw_any (a : Option Addr) (n c : Nat) (bs : List UInt8) (o p : OD) (u u2 : Value) (w : World) (h : Bytes w (.slice a n c) bs) (hA : o.At (fun _ => True) w u) (hA2 : p.At (fun _ => True) w u2) (hT : OTab w) : Calls Tryd.prog 4 #[.slice a n c, u, u2] w fun e w' => e = .returned (.bool true) ∧ Below w.heap.size w w' := by
  have HAX : Hid (∀ X, Below w.heap.size w X → Bytes X (.slice a n c) bs ∧ o.At (fun _ => True) X u ∧ p.At (fun _ => True) X u2 ∧ OTab X) := fun X hX => ⟨h.laterW hX, hA.later hX, hA2.later hX, hT.later hX⟩
  have HAW : Hid (∀ W, Below w.heap.size w W → Calls Tryd.prog 8 #[] W fun e w' => e = .returned (.bool true) ∧ Below W.heap.size W w') := fun W hW => oAwake_any W (hT.later hW)
  have HBL := hide (bytes_len h).1
  obtain ⟨L, s, t, K, N, z, va, m, cc, fa, fn, fc, q, rfl, -⟩ := hA.form
  obtain ⟨L2, s2, t2, K2, N2, z2, va2, m2, cc2, fa2, fn2, fc2, q2, rfl, -⟩ := hA2.form
  unfold OD.form9 at *
  obtain ⟨W1, hW1⟩ : ∃ W1, W1 = (w.alloc (.cells #[.int .u8 ((L : Nat) : Int), .string s, .int .i64 t, .int .u8 ((K : Nat) : Int), .int .i64 N, .string z, .slice va m cc, .slice fa fn fc, .int .i64 q] 27)).alloc (.cells #[.int .u8 ((L2 : Nat) : Int), .string s2, .int .i64 t2, .int .u8 ((K2 : Nat) : Int), .int .i64 N2, .string z2, .slice va2 m2 cc2, .slice fa2 fn2 fc2, .int .i64 q2] 27) := ⟨_, rfl⟩
  obtain ⟨hb1, hg1, hg2⟩ := alloc2_nine w #[.int .u8 ((L : Nat) : Int), .string s, .int .i64 t, .int .u8 ((K : Nat) : Int), .int .i64 N, .string z, .slice va m cc, .slice fa fn fc, .int .i64 q] #[.int .u8 ((L2 : Nat) : Int), .string s2, .int .i64 t2, .int .u8 ((K2 : Nat) : Int), .int .i64 N2, .string z2, .slice va2 m2 cc2, .slice fa2 fn2 fc2, .int .i64 q2] 27
  rw [← hW1] at hb1 hg1 hg2
  have HB1 := hide hb1
  have HKS : Hid (∀ X, Below W1.heap.size W1 X → (X.cell? ⟨w.heap.size, 0, none⟩ = some (.int .u8 ((L : Nat) : Int)) ∧ X.cell? ⟨w.heap.size, 1, none⟩ = some (.string s) ∧ X.cell? ⟨w.heap.size, 2, none⟩ = some (.int .i64 t) ∧ X.cell? ⟨w.heap.size, 3, none⟩ = some (.int .u8 ((K : Nat) : Int)) ∧ X.cell? ⟨w.heap.size, 4, none⟩ = some (.int .i64 N) ∧ X.cell? ⟨w.heap.size, 5, none⟩ = some (.string z) ∧ X.cell? ⟨w.heap.size, 6, none⟩ = some (.slice va m cc) ∧ X.cell? ⟨w.heap.size, 7, none⟩ = some (.slice fa fn fc) ∧ X.cell? ⟨w.heap.size, 8, none⟩ = some (.int .i64 q)) ∧ X.cell? ⟨w.heap.size + 1, 0, none⟩ = some (.int .u8 ((L2 : Nat) : Int)) ∧ X.cell? ⟨w.heap.size + 1, 1, none⟩ = some (.string s2) ∧ X.cell? ⟨w.heap.size + 1, 2, none⟩ = some (.int .i64 t2) ∧ X.cell? ⟨w.heap.size + 1, 3, none⟩ = some (.int .u8 ((K2 : Nat) : Int)) ∧ X.cell? ⟨w.heap.size + 1, 4, none⟩ = some (.int .i64 N2) ∧ X.cell? ⟨w.heap.size + 1, 5, none⟩ = some (.string z2) ∧ X.cell? ⟨w.heap.size + 1, 6, none⟩ = some (.slice va2 m2 cc2) ∧ X.cell? ⟨w.heap.size + 1, 7, none⟩ = some (.slice fa2 fn2 fc2) ∧ X.cell? ⟨w.heap.size + 1, 8, none⟩ = some (.int .i64 q2)) := fun X hX => ⟨cells9 ((hX.block _ (Array.getElem?_eq_some_iff.1 hg1).1).trans hg1), cells9 ((hX.block _ (Array.getElem?_eq_some_iff.1 hg2).1).trans hg2)⟩
  obtain ⟨⟨d0, d1, d2, d3, d4, d5, d6, d7, d8⟩, k0, k1, k2, k3, k4, k5, k6, k7, k8⟩ := unhide HKS _ (Below.refl _ _)
  clear h hA hA2 hT hb1 hg1 hg2
  go_enter Tryd.func4, Tryd.ntmps4
  go_upto_region 1 with fail
  rw [← hW1]
  clear hW1
  by_cases hbig : n > 2000
  · have p1 : ((n : Nat) : Int) > 2000 := by omega
    clear hbig
    go_wp2_with fail
    refine (unhide HAW _ (unhide HB1)).mono ?_
    rintro e w2 ⟨rfl, hb2⟩
    have HB2 := hide hb2
    clear hb2
    go_wp2_with fail
    go_ret
    exact ⟨rfl, (unhide HB1).trans ((unhide HB2).mono (unhide HB1).size)⟩
  have p1 : ¬ ((n : Nat) : Int) > 2000 := by omega
  have HNL : Hid (n ≤ 2000) := by show _ ≤ _; omega
  clear hbig
  go_wp2_with fail
  refine (oFew_any o _ _ W1 (unhide HAX _ (unhide HB1)).2.1).mono ?_
  rintro e w2 ⟨⟨f1, rfl, hf1⟩, hb2⟩
  have HB2 := hide hb2
  have HF1 := hide hf1
  clear d0 d1 d2 d3 d4 d5 d6 d7 d8 k0 k1 k2 k3 k4 k5 k6 k7 k8
  obtain ⟨⟨d0, d1, d2, d3, d4, d5, d6, d7, d8⟩, k0, k1, k2, k3, k4, k5, k6, k7, k8⟩ := unhide HKS _ hb2
  clear hb2 hf1
  cases f1 with
  | false =>
    go_wp2_with fail
    refine (unhide HAW _ ((unhide HB1).trans ((unhide HB2).mono (unhide HB1).size))).mono ?_
    rintro e w3 ⟨rfl, hb3⟩
    have HB3 := hide ((unhide HB2).trans (hb3.mono (unhide HB2).size))
    clear hb3
    go_wp2_with fail
    go_ret
    exact ⟨rfl, (unhide HB1).trans ((unhide HB3).mono (unhide HB1).size)⟩
  | true =>
  have HLO : Hid (o.Lt) := (unhide HF1 rfl).lt
  go_wp2_with fail
  refine (oFew_any p _ _ w2 (unhide HAX _ ((unhide HB1).trans ((unhide HB2).mono (unhide HB1).size))).2.2.1).mono ?_
  rintro e w3 ⟨⟨f2, rfl, hf2⟩, hb3⟩
  have HB3 := hide ((unhide HB2).trans (hb3.mono (unhide HB2).size))
  have HF2 := hide hf2
  clear hb3 hf2 HB2
  cases f2 with
  | false =>
    go_wp2_with fail
    refine (unhide HAW _ ((unhide HB1).trans ((unhide HB3).mono (unhide HB1).size))).mono ?_
    rintro e w4 ⟨rfl, hb4⟩
    have HB4 := hide ((unhide HB3).trans (hb4.mono (unhide HB3).size))
    clear hb4
    go_wp2_with fail
    go_ret
    exact ⟨rfl, (unhide HB1).trans ((unhide HB4).mono (unhide HB1).size)⟩
  | true =>
  have HLP : Hid (p.Lt) := (unhide HF2 rfl).lt
  have HW3 := hide ((unhide HB1).trans ((unhide HB3).mono (unhide HB1).size))
  clear HF1 HF2
  clear d0 d1 d2 d3 d4 d5 d6 d7 d8 k0 k1 k2 k3 k4 k5 k6 k7 k8
  clear p1
  go_wp2_with fail
  refine (oParse_any a n c bs w3 (unhide HAX _ (unhide HW3)).1 (by have := unhide HNL; omega) (unhide HAX _ (unhide HW3)).2.2.2).mono ?_
  rintro e w4 ⟨x, ux, er, rfl, hAx, hlx, hb4, hor⟩
  obtain ⟨L3, s3, t3, K3, N3, z3, va3, m3, cc3, fa3, fn3, fc3, q3, rfl, -⟩ := hAx.form
  unfold OD.form9 at *
  obtain ⟨w5, hw5⟩ : ∃ w5, w5 = w4.alloc (.cells #[.int .u8 ((L3 : Nat) : Int), .string s3, .int .i64 t3, .int .u8 ((K3 : Nat) : Int), .int .i64 N3, .string z3, .slice va3 m3 cc3, .slice fa3 fn3 fc3, .int .i64 q3] 27) := ⟨_, rfl⟩
  have hb5 : Below w4.heap.size w4 w5 := by rw [hw5]; exact (Below.refl _ _).alloc (Nat.le_refl _) _
  have hr5 : w5.heap[w4.heap.size]? = some (.cells #[.int .u8 ((L3 : Nat) : Int), .string s3, .int .i64 t3, .int .u8 ((K3 : Nat) : Int), .int .i64 N3, .string z3, .slice va3 m3 cc3, .slice fa3 fn3 fc3, .int .i64 q3] 27 (0, 0)) := by rw [hw5]; exact heap_alloc_new _ _
  have HC5 : Hid (∀ X, Below w5.heap.size w5 X → X.cell? ⟨w4.heap.size, 0, none⟩ = some (.int .u8 ((L3 : Nat) : Int)) ∧ X.cell? ⟨w4.heap.size, 1, none⟩ = some (.string s3) ∧ X.cell? ⟨w4.heap.size, 2, none⟩ = some (.int .i64 t3) ∧ X.cell? ⟨w4.heap.size, 3, none⟩ = some (.int .u8 ((K3 : Nat) : Int)) ∧ X.cell? ⟨w4.heap.size, 4, none⟩ = some (.int .i64 N3) ∧ X.cell? ⟨w4.heap.size, 5, none⟩ = some (.string z3) ∧ X.cell? ⟨w4.heap.size, 6, none⟩ = some (.slice va3 m3 cc3) ∧ X.cell? ⟨w4.heap.size, 7, none⟩ = some (.slice fa3 fn3 fc3) ∧ X.cell? ⟨w4.heap.size, 8, none⟩ = some (.int .i64 q3)) := fun X hX => cells9 ((hX.block _ (Array.getElem?_eq_some_iff.1 hr5).1).trans hr5)
  have HA5 : Hid (∀ X, Below w5.heap.size w5 X → x.At (fun _ => True) X (.agg #[.int .u8 ((L3 : Nat) : Int), .string s3, .int .i64 t3, .int .u8 ((K3 : Nat) : Int), .int .i64 N3, .string z3, .slice va3 m3 cc3, .slice fa3 fn3 fc3, .int .i64 q3])) := fun X hX => ((hAx.later hb5).later hX).wider fun _ _ => trivial
  have HB5 : Hid (Below w3.heap.size w3 w5) := hb4.trans (hb5.mono hb4.size)
  have HLX := hide hlx
  have HW5 := hide hw5
  have HOR := hide hor
  clear hAx hlx hb4 hb5 hr5 hw5 hor
  go_upto_region 4 with fail
  rw [← unhide HW5]
  clear HW5
  obtain ⟨te, hte⟩ : ∃ te, te = (er == 0) := ⟨_, rfl⟩
  have HTE := hide hte
  replace hte := hte.symm
  go_upto_if 35 with fail
  clear hte
  go_cut [] (fun wx => Below w3.heap.size w3 wx)
  case first =>
    rcases unhide HOR with ⟨rfl, hrx, hbx⟩ | ⟨rfl, -, -⟩
    · obtain rfl : te = true := unhide HTE
      have HRX := hide hrx
      have HBX := hide hbx
      have HW5b := hide ((unhide HW3).trans ((unhide HB5).mono (unhide HW3).size))
      obtain ⟨c0, c1, c2, c3, c4, c5, c6, c7, c8⟩ := unhide HC5 _ (Below.refl _ _)
      clear hrx hbx HOR
      go_wp2_with fail
      refine (oBytes_any x _ _ w5 (unhide HA5 _ (Below.refl _ _)) (unhide HLX) (unhide HAX _ (unhide HW5b)).2.2.2).mono ?_
      rintro e w6 h6
      obtain ⟨pa, pn, pc, rfl, hP, hb6, -⟩ := oBytesM_right h6 (unhide HRX)
      have HP6 := hide hP
      have HB6 := hide hb6
      clear c0 c1 c2 c3 c4 c5 c6 c7 c8
      obtain ⟨c0, c1, c2, c3, c4, c5, c6, c7, c8⟩ := unhide HC5 _ hb6
      have HW6 := hide ((unhide HW5b).trans (hb6.mono (unhide HW5b).size))
      clear h6 hP hb6
      go_wp2_with fail
      refine (oRight_any x _ _ w6 (unhide HA5 _ (unhide HB6)) (unhide HLX) (unhide HAX _ (unhide HW6)).2.2.2).mono ?_
      rintro e w7 ⟨rfl, hb7⟩
      rw [unhide HRX]
      have HP7 := hide ((unhide HP6).laterW hb7)
      have HW7 := hide ((unhide HW6).trans (hb7.mono (unhide HW6).size))
      have HB7 := hide ((unhide HB5).trans (((unhide HB6).trans (hb7.mono (unhide HB6).size)).mono (unhide HB5).size))
      clear hb7
      go_wp2_with fail
      refine (wSame_true _ _ x.bytes _ (by have h := (unhide HAX _ (unhide HW7)).1; rw [unhide HBX] at h; exact h) (unhide HP7)).mono ?_
      rintro e w8 ⟨rfl, hw⟩
      rw [hw]
      clear hw w8
      go_wp2_with fail
      go_meet
      exact unhide HB7
    · obtain rfl : te = false := unhide HTE
      clear HC5 HA5 HLX HOR
      go_wp2_with fail
      go_meet
      exact unhide HB5
  have hb4 : Below w3.heap.size w3 wc := hcut
  have HB4 := hide ((unhide HB3).trans (hb4.mono (unhide HB3).size))
  have HW4 := hide ((unhide HW3).trans (hb4.mono (unhide HW3).size))
  clear hcut hb4 HB3 HW3 HC5 HA5 HB5 HLX HOR
  obtain ⟨⟨d0, d1, d2, d3, d4, d5, d6, d7, d8⟩, k0, k1, k2, k3, k4, k5, k6, k7, k8⟩ := unhide HKS _ (unhide HB4)
  go_wp2_with fail
  refine (oBytes_any o _ _ wc (unhide HAX _ (unhide HW4)).2.1 (unhide HLO) (unhide HAX _ (unhide HW4)).2.2.2).mono ?_
  rintro e w5 ⟨pa, pn, pc, e1, r1, rfl, hP1, hb5, ho1⟩
  have HP1 := hide hP1
  have HO1 : Hid ((o.right = true ∧ e1 = 0 ∧ r1 = o.bytes) ∨ (o.right = false ∧ e1 = 2)) := by
    rcases ho1 with ⟨h1, h2, h3, -⟩ | ⟨h1, h2, -⟩
    · exact .inl ⟨h1, h2, h3⟩
    · exact .inr ⟨h1, h2⟩
  have HB5 := hide ((unhide HB4).trans (hb5.mono (unhide HB4).size))
  have HW5 := hide ((unhide HW4).trans (hb5.mono (unhide HW4).size))
  clear d0 d1 d2 d3 d4 d5 d6 d7 d8 k0 k1 k2 k3 k4 k5 k6 k7 k8
  obtain ⟨⟨d0, d1, d2, d3, d4, d5, d6, d7, d8⟩, k0, k1, k2, k3, k4, k5, k6, k7, k8⟩ := unhide HKS _ (unhide HB5)
  clear hP1 hb5 ho1 HB4 HW4
  go_wp2_with fail
  refine (oBytes_any p _ _ w5 (unhide HAX _ (unhide HW5)).2.2.1 (unhide HLP) (unhide HAX _ (unhide HW5)).2.2.2).mono ?_
  rintro e w6 ⟨qa, qn, qc, e2, r2, rfl, hP2, hb6, ho2⟩
  have HP2 := hide hP2
  have HP1' := hide ((unhide HP1).laterW hb6)
  have HO2 : Hid ((p.right = true ∧ e2 = 0 ∧ r2 = p.bytes) ∨ (p.right = false ∧ e2 = 2)) := by
    rcases ho2 with ⟨h1, h2, h3, -⟩ | ⟨h1, h2, -⟩
    · exact .inl ⟨h1, h2, h3⟩
    · exact .inr ⟨h1, h2⟩
  have HB6 := hide ((unhide HB5).trans (hb6.mono (unhide HB5).size))
  have HW6 := hide ((unhide HW5).trans (hb6.mono (unhide HW5).size))
  clear d0 d1 d2 d3 d4 d5 d6 d7 d8 k0 k1 k2 k3 k4 k5 k6 k7 k8
  obtain ⟨⟨d0, d1, d2, d3, d4, d5, d6, d7, d8⟩, k0, k1, k2, k3, k4, k5, k6, k7, k8⟩ := unhide HKS _ (unhide HB6)
  clear hP2 hb6 ho2 HB5 HW5 HP1
  have HA6 : Hid (∀ X, Below w6.heap.size w6 X → Calls Tryd.prog 8 #[] X fun e w' => e = .returned (.bool true) ∧ Below X.heap.size X w') := fun X hX => unhide HAW X ((unhide HW6).trans (hX.mono (unhide HW6).size))
  have l0 := Later.cell d0
  have l1 := Later.cell d1
  have l2 := Later.cell d2
  have l3 := Later.cell d3
  have l4 := Later.cell d4
  have l5 := Later.cell d5
  have l6 := Later.cell d6
  have l7 := Later.cell d7
  have l8 := Later.cell d8
  have j0 := Later.cell k0
  have j1 := Later.cell k1
  have j2 := Later.cell k2
  have j3 := Later.cell k3
  have j4 := Later.cell k4
  have j5 := Later.cell k5
  have j6 := Later.cell k6
  have j7 := Later.cell k7
  have j8 := Later.cell k8
  have HEND : Hid (∀ X, Below w6.heap.size w6 X → Below w.heap.size w X) := fun X hX => (unhide HW6).trans (hX.mono (unhide HW6).size)
  rcases unhide HO1 with ⟨hro, rfl, rfl⟩ | ⟨hro, rfl⟩
  · rcases unhide HO2 with ⟨hrp, rfl, rfl⟩ | ⟨hrp, rfl⟩
    · have HSM : Hid (∀ X, Below w6.heap.size w6 X → Calls Tryd.prog 12 #[.agg #[.int .u8 ((L : Nat) : Int), .string s, .int .i64 t, .int .u8 ((K : Nat) : Int), .int .i64 N, .string z, .slice va m cc, .slice fa fn fc, .int .i64 q], .agg #[.int .u8 ((L2 : Nat) : Int), .string s2, .int .i64 t2, .int .u8 ((K2 : Nat) : Int), .int .i64 N2, .string z2, .slice va2 m2 cc2, .slice fa2 fn2 fc2, .int .i64 q2]] X fun e w' => e = .returned (.bool (o.same p)) ∧ Below X.heap.size X w') := fun X hX => oSame_any o p _ _ _ _ X (unhide HAX X (unhide HEND X hX)).2.1 (unhide HAX X (unhide HEND X hX)).2.2.1 (unhide HLO)
      have HSW : Hid (∀ X, Below w6.heap.size w6 X → Calls Tryd.prog 13 #[.slice pa pn pc, .slice qa qn qc] X fun e w' => e = .returned (.bool (o.same p)) ∧ w' = X) := fun X hX => by
        have h := wSame_any (.slice pa pn pc) (.slice qa qn qc) o.bytes p.bytes X ((unhide HP1').laterW hX) ((unhide HP2).laterW hX)
        rw [OD.bytes_same hro hrp] at h
        exact h
      generalize o.same p = sm at *
      have hsm : (sm == sm) = true := by cases sm <;> rfl
      clear hro hrp HO1 HO2
      go_upto_region 10 with fail
      have hne : Nonempty (Later w6) := ⟨⟨w6, Below.refl _ _⟩⟩
      refine wp_region_later (by kernel_rfl) ?_
      repeat (go_big_quiet_step ((rename_i q9; first | (go_at_call 13; refine (unhide HSW _ q9.2).mono ?_; rintro e w7 ⟨rfl, hw⟩; exact ⟨rfl, q9.same hw⟩) | (go_at_call 12; refine (unhide HSM _ q9.2).mono ?_; rintro e w7 ⟨rfl, hb⟩; exact ⟨rfl, q9.then hb⟩) | (go_at_call 8; refine (unhide HA6 _ q9.2).mono ?_; rintro e w7 ⟨rfl, hb⟩; exact ⟨rfl, q9.then hb⟩))))
      refine wpQuiet_nil ?_
      rintro _ ⟨q9, rfl⟩
      have HFIN : Hid (Below w6.heap.size w6 q9.1) := q9.2
      generalize q9.1 = W20 at *
      go_wp2_with fail
      go_ret
      exact ⟨rfl, unhide HEND _ (unhide HFIN)⟩
    · clear hro hrp HO1 HO2
      go_upto_region 10 with fail
      have hne : Nonempty (Later w6) := ⟨⟨w6, Below.refl _ _⟩⟩
      refine wp_region_later (by kernel_rfl) ?_
      repeat (go_big_quiet_step ((rename_i q9; (go_at_call 8; refine (unhide HA6 _ q9.2).mono ?_; rintro e w7 ⟨rfl, hb⟩; exact ⟨rfl, q9.then hb⟩))))
      refine wpQuiet_nil ?_
      rintro _ ⟨q9, rfl⟩
      have HFIN : Hid (Below w6.heap.size w6 q9.1) := q9.2
      generalize q9.1 = W20 at *
      go_wp2_with fail
      go_ret
      exact ⟨rfl, unhide HEND _ (unhide HFIN)⟩
  · clear hro HO1 HO2
    go_upto_region 10 with fail
    have hne : Nonempty (Later w6) := ⟨⟨w6, Below.refl _ _⟩⟩
    refine wp_region_later (by kernel_rfl) ?_
    repeat (go_big_quiet_step ((rename_i q9; (go_at_call 8; refine (unhide HA6 _ q9.2).mono ?_; rintro e w7 ⟨rfl, hb⟩; exact ⟨rfl, q9.then hb⟩))))
    refine wpQuiet_nil ?_
    rintro _ ⟨q9, rfl⟩
    have HFIN : Hid (Below w6.heap.size w6 q9.1) := q9.2
    generalize q9.1 = W20 at *
    go_wp2_with fail
    go_ret
    exact ⟨rfl, unhide HEND _ (unhide HFIN)⟩
end Go.Proofs.YtdlbpbglidhlfaaDoor
