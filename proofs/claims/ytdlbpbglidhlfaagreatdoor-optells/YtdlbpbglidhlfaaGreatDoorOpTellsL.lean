/- OpTells of foremanlaw10: its walk. No statement of the seat is proved here. -/
import Derived.Test.YtdlbpbglidhlfaaGreatDoorBase15
import Derived.Test.YtdlbpbglidhlfaaGreatDoorBase19
import Derived.Test.YtdlbpbglidhlfaaGreatDoorBase09
import Derived.BigQuiet
namespace Go.Proofs.YtdlbpbglidhlfaaGreatDoor
open Go.RowKit

set_option maxRecDepth 100000 in
set_option maxHeartbeats 8000000 in
theorem tellsLaw_any (o p : OD) (u u2 : Value) (str : List UInt8) (a : Option Addr) (n c : Nat) (bs : List UInt8) (w : World) (hA : o.At (fun _ => True) w u) (hA2 : p.At (fun _ => True) w u2) (hB : Bytes w (.slice a n c) bs) (hT : OTab w) : Calls Tryz.prog 3 #[u, u2, .string ⟨str.toArray⟩, .slice a n c] w fun e w' => e = .returned (.bool true) ∧ Below w.heap.size w w' := by
  have HAX : Hid (∀ X, Below w.heap.size w X → o.At (fun _ => True) X u ∧ p.At (fun _ => True) X u2 ∧ Bytes X (.slice a n c) bs ∧ OTab X) := fun X hX => ⟨hA.later hX, hA2.later hX, hB.laterW hX, hT.later hX⟩
  have HAW : Hid (∀ W, Below w.heap.size w W → Calls Tryz.prog 5 #[] W fun e w' => e = .returned (.bool true) ∧ Below w.heap.size w w') := fun W hW => (oAwake_any W (hT.later hW)).mono fun e w' ⟨h1, h2⟩ => ⟨h1, hW.trans (h2.mono hW.size)⟩
  have HBL := hide (bytes_len hB).1
  have hsz := str_size str
  have HCI := hide (fun W => oID_any str W)
  have HRI : Hid (str.length ≤ 500 → ∀ W, Calls Tryz.prog 9 #[.string ⟨str.toArray⟩] W fun e w' => e = .returned (.bool (idB str)) ∧ w' = W) := fun h W => rID_any str (by omega) W
  obtain ⟨k, hk⟩ : ∃ k, k = str.length := ⟨_, rfl⟩
  rw [← hk] at hsz HRI
  obtain ⟨zz, hzz⟩ : ∃ zz : ByteArray, zz = ⟨str.toArray⟩ := ⟨_, rfl⟩
  rw [← hzz] at hsz HCI HRI ⊢
  obtain ⟨nb, hnb⟩ : ∃ nb, nb = idB str := ⟨_, rfl⟩
  rw [← hnb] at HCI HRI
  clear hk hzz hnb
  obtain ⟨L, s, t, K, N, z, va, m, cc, fa, fn, fc, q, rfl, -⟩ := hA.form
  obtain ⟨L2, s2, t2, K2, N2, z2, va2, m2, cc2, fa2, fn2, fc2, q2, rfl, -⟩ := hA2.form
  unfold OD.form9 at *
  obtain ⟨W1, hW1⟩ : ∃ W1, W1 = (w.alloc (.cells #[.int .u8 ((L : Nat) : Int), .string s, .int .i64 t, .int .u8 ((K : Nat) : Int), .int .i64 N, .string z, .slice va m cc, .slice fa fn fc, .int .i64 q] 27)).alloc (.cells #[.int .u8 ((L2 : Nat) : Int), .string s2, .int .i64 t2, .int .u8 ((K2 : Nat) : Int), .int .i64 N2, .string z2, .slice va2 m2 cc2, .slice fa2 fn2 fc2, .int .i64 q2] 27) := ⟨_, rfl⟩
  obtain ⟨hb1, hg1, hg2⟩ := alloc2_nine w #[.int .u8 ((L : Nat) : Int), .string s, .int .i64 t, .int .u8 ((K : Nat) : Int), .int .i64 N, .string z, .slice va m cc, .slice fa fn fc, .int .i64 q] #[.int .u8 ((L2 : Nat) : Int), .string s2, .int .i64 t2, .int .u8 ((K2 : Nat) : Int), .int .i64 N2, .string z2, .slice va2 m2 cc2, .slice fa2 fn2 fc2, .int .i64 q2] 27
  rw [← hW1] at hb1 hg1 hg2
  have HB1 := hide hb1
  have HKS : Hid (∀ X, Below W1.heap.size W1 X → (X.cell? ⟨w.heap.size, 0, none⟩ = some (.int .u8 ((L : Nat) : Int)) ∧ X.cell? ⟨w.heap.size, 1, none⟩ = some (.string s) ∧ X.cell? ⟨w.heap.size, 2, none⟩ = some (.int .i64 t) ∧ X.cell? ⟨w.heap.size, 3, none⟩ = some (.int .u8 ((K : Nat) : Int)) ∧ X.cell? ⟨w.heap.size, 4, none⟩ = some (.int .i64 N) ∧ X.cell? ⟨w.heap.size, 5, none⟩ = some (.string z) ∧ X.cell? ⟨w.heap.size, 6, none⟩ = some (.slice va m cc) ∧ X.cell? ⟨w.heap.size, 7, none⟩ = some (.slice fa fn fc) ∧ X.cell? ⟨w.heap.size, 8, none⟩ = some (.int .i64 q)) ∧ X.cell? ⟨w.heap.size + 1, 0, none⟩ = some (.int .u8 ((L2 : Nat) : Int)) ∧ X.cell? ⟨w.heap.size + 1, 1, none⟩ = some (.string s2) ∧ X.cell? ⟨w.heap.size + 1, 2, none⟩ = some (.int .i64 t2) ∧ X.cell? ⟨w.heap.size + 1, 3, none⟩ = some (.int .u8 ((K2 : Nat) : Int)) ∧ X.cell? ⟨w.heap.size + 1, 4, none⟩ = some (.int .i64 N2) ∧ X.cell? ⟨w.heap.size + 1, 5, none⟩ = some (.string z2) ∧ X.cell? ⟨w.heap.size + 1, 6, none⟩ = some (.slice va2 m2 cc2) ∧ X.cell? ⟨w.heap.size + 1, 7, none⟩ = some (.slice fa2 fn2 fc2) ∧ X.cell? ⟨w.heap.size + 1, 8, none⟩ = some (.int .i64 q2)) := fun X hX => ⟨cells9 ((hX.block _ (Array.getElem?_eq_some_iff.1 hg1).1).trans hg1), cells9 ((hX.block _ (Array.getElem?_eq_some_iff.1 hg2).1).trans hg2)⟩
  obtain ⟨⟨d0, d1, d2, d3, d4, d5, d6, d7, d8⟩, k0, k1, k2, k3, k4, k5, k6, k7, k8⟩ := unhide HKS _ (Below.refl _ _)
  clear hB hA hA2 hT hb1 hg1 hg2
  go_enter Tryz.func3, Tryz.ntmps3
  go_upto_region 1 with fail
  rw [← hW1]
  clear hW1
  go_wp2_with fail
  refine (oFew_any o _ _ W1 (unhide HAX _ (unhide HB1)).1).mono ?_
  rintro e w2 ⟨⟨f1, rfl, hf1⟩, hb2⟩
  have HW2 := hide ((unhide HB1).trans (hb2.mono (unhide HB1).size))
  have HB2 := hide hb2
  have HF1 := hide hf1
  clear d0 d1 d2 d3 d4 d5 d6 d7 d8 k0 k1 k2 k3 k4 k5 k6 k7 k8
  obtain ⟨⟨d0, d1, d2, d3, d4, d5, d6, d7, d8⟩, k0, k1, k2, k3, k4, k5, k6, k7, k8⟩ := unhide HKS _ hb2
  clear hb2 hf1
  cases f1 with
  | false =>
    go_wp2_with fail
    refine (unhide HAW _ (unhide HW2)).mono ?_
    rintro e w9 ⟨rfl, hb9⟩
    have HB9 := hide hb9
    clear hb9
    go_wp2_with fail
    go_ret
    exact ⟨rfl, unhide HB9⟩
  | true =>
  have HFO : Hid (FewO o) := unhide HF1 rfl
  go_wp2_with fail
  refine (oFew_any p _ _ w2 (unhide HAX _ (unhide HW2)).2.1).mono ?_
  rintro e w3 ⟨⟨f2, rfl, hf2⟩, hb3⟩
  have HB3 := hide ((unhide HB2).trans (hb3.mono (unhide HB2).size))
  have HW3 := hide ((unhide HW2).trans (hb3.mono (unhide HW2).size))
  clear d0 d1 d2 d3 d4 d5 d6 d7 d8 k0 k1 k2 k3 k4 k5 k6 k7 k8
  obtain ⟨⟨d0, d1, d2, d3, d4, d5, d6, d7, d8⟩, k0, k1, k2, k3, k4, k5, k6, k7, k8⟩ := unhide HKS _ (unhide HB3)
  clear hb3 hf2 HB2 HW2 HF1
  cases f2 with
  | false =>
    go_wp2_with fail
    refine (unhide HAW _ (unhide HW3)).mono ?_
    rintro e w9 ⟨rfl, hb9⟩
    have HB9 := hide hb9
    clear hb9
    go_wp2_with fail
    go_ret
    exact ⟨rfl, unhide HB9⟩
  | true =>
  by_cases hk5 : k > 500
  · have p1 : ((k : Nat) : Int) > 500 := by omega
    have p1d : decide (((k : Nat) : Int) > 500) = true := decide_eq_true p1
    clear hk5
    go_wp2_with fail
    refine (unhide HAW _ (unhide HW3)).mono ?_
    rintro e w9 ⟨rfl, hb9⟩
    have HB9 := hide hb9
    clear hb9
    go_wp2_with fail
    go_ret
    exact ⟨rfl, unhide HB9⟩
  have p1 : ¬ ((k : Nat) : Int) > 500 := by omega
  have p1d : decide (((k : Nat) : Int) > 500) = false := decide_eq_false p1
  have HRN := hide (unhide HRI (by omega))
  by_cases hbig : n > 2000
  · have p2 : ((n : Nat) : Int) > 2000 := by omega
    have p2d : decide (((n : Nat) : Int) > 2000) = true := decide_eq_true p2
    clear hbig hk5
    go_wp2_with fail
    refine (unhide HAW _ (unhide HW3)).mono ?_
    rintro e w9 ⟨rfl, hb9⟩
    have HB9 := hide hb9
    clear hb9
    go_wp2_with fail
    go_ret
    exact ⟨rfl, unhide HB9⟩
  have p2 : ¬ ((n : Nat) : Int) > 2000 := by omega
  have p2d : decide (((n : Nat) : Int) > 2000) = false := decide_eq_false p2
  have HN : Hid (n ≤ 2000) := by show _ ≤ _; omega
  have HLO : Hid (o.Lt) := (unhide HFO).lt
  have HSM : Hid (SmallF o.frag) := (unhide HFO).2.1.small
  have HIL : Hid (o.id.length ≤ 1000000) := by show _ ≤ _; have := (unhide HFO).2.2; omega
  clear hbig hk5 HRI HFO
  go_upto_region 3 with fail
  clear p1 p1d p2 p2d
  go_wp2_with fail
  refine (rORight_any o _ _ w3 (unhide HAX _ (unhide HW3)).1 (unhide HLO) (unhide HSM) (unhide HIL)).mono ?_
  rintro e w4 ⟨rfl, hb4⟩
  obtain ⟨rt, hrt⟩ : ∃ rt, rt = o.right := ⟨_, rfl⟩
  rw [← hrt]
  have HRT := hide hrt
  have HB4 := hide ((unhide HB3).trans (hb4.mono (unhide HB3).size))
  have HW4 := hide ((unhide HW3).trans (hb4.mono (unhide HW3).size))
  clear d0 d1 d2 d3 d4 d5 d6 d7 d8 k0 k1 k2 k3 k4 k5 k6 k7 k8
  obtain ⟨⟨d0, d1, d2, d3, d4, d5, d6, d7, d8⟩, k0, k1, k2, k3, k4, k5, k6, k7, k8⟩ := unhide HKS _ (unhide HB4)
  clear hb4 HB3 HW3 hrt
  go_wp2_with fail
  refine (oBytes_any o _ _ w4 (unhide HAX _ (unhide HW4)).1 (unhide HLO) (unhide HAX _ (unhide HW4)).2.2.2).mono ?_
  rintro e w5 ⟨pa, pn, pc, e1, r1, rfl, hp1, hb5, ho1⟩
  have HP1 := hide hp1
  have HO1 : Hid ((rt = true ∧ e1 = 0 ∧ r1 = o.bytes) ∨ (rt = false ∧ e1 = 2 ∧ pn = 0)) := by
    rcases ho1 with ⟨h1, h2, h3, -⟩ | ⟨h1, h2, -, h4⟩
    · exact .inl ⟨by rw [unhide HRT, h1], h2, h3⟩
    · exact .inr ⟨by rw [unhide HRT, h1], h2, h4⟩
  have HB5 := hide ((unhide HB4).trans (hb5.mono (unhide HB4).size))
  have HW5 := hide ((unhide HW4).trans (hb5.mono (unhide HW4).size))
  clear d0 d1 d2 d3 d4 d5 d6 d7 d8 k0 k1 k2 k3 k4 k5 k6 k7 k8
  obtain ⟨⟨d0, d1, d2, d3, d4, d5, d6, d7, d8⟩, k0, k1, k2, k3, k4, k5, k6, k7, k8⟩ := unhide HKS _ (unhide HB5)
  clear hp1 ho1 hb5 HB4 HW4
  go_upto_region 5 with fail
  go_cut [81] (fun t wx => t = .bool false ∧ Below w5.heap.size w5 wx)
  case first =>
    have l0 := Later.cell d0
    have l1 := Later.cell d1
    have l2 := Later.cell d2
    have l3 := Later.cell d3
    have l4 := Later.cell d4
    have l5 := Later.cell d5
    have l6 := Later.cell d6
    have l7 := Later.cell d7
    have l8 := Later.cell d8
    have j0 := Later.cell k0
    have j1 := Later.cell k1
    have j2 := Later.cell k2
    have j3 := Later.cell k3
    have j4 := Later.cell k4
    have j5 := Later.cell k5
    have j6 := Later.cell k6
    have j7 := Later.cell k7
    have j8 := Later.cell k8
    have HOR : Hid (∀ X, Below w5.heap.size w5 X → Calls Tryz.prog 10 #[.agg #[.int .u8 ((L : Nat) : Int), .string s, .int .i64 t, .int .u8 ((K : Nat) : Int), .int .i64 N, .string z, .slice va m cc, .slice fa fn fc, .int .i64 q]] X fun e w' => e = .returned (.bool rt) ∧ Below X.heap.size X w') := fun X hX => by
      have hX2 := (unhide HW5).trans (hX.mono (unhide HW5).size)
      rw [unhide HRT]
      exact oRight_any o _ _ X (unhide HAX X hX2).1 (unhide HLO) (unhide HAX X hX2).2.2.2
    have HOS : Hid (∀ X, Below w5.heap.size w5 X → Calls Tryz.prog 11 #[.agg #[.int .u8 ((L : Nat) : Int), .string s, .int .i64 t, .int .u8 ((K : Nat) : Int), .int .i64 N, .string z, .slice va m cc, .slice fa fn fc, .int .i64 q], .agg #[.int .u8 ((L2 : Nat) : Int), .string s2, .int .i64 t2, .int .u8 ((K2 : Nat) : Int), .int .i64 N2, .string z2, .slice va2 m2 cc2, .slice fa2 fn2 fc2, .int .i64 q2]] X fun e w' => e = .returned (.bool (o.same p)) ∧ Below X.heap.size X w') := fun X hX => by
      have hX2 := (unhide HW5).trans (hX.mono (unhide HW5).size)
      exact oSame_any o p _ _ _ _ X (unhide HAX X hX2).1 (unhide HAX X hX2).2.1 (unhide HLO)
    have HRS : Hid (∀ X, Below w5.heap.size w5 X → Calls Tryz.prog 12 #[.agg #[.int .u8 ((L : Nat) : Int), .string s, .int .i64 t, .int .u8 ((K : Nat) : Int), .int .i64 N, .string z, .slice va m cc, .slice fa fn fc, .int .i64 q], .agg #[.int .u8 ((L2 : Nat) : Int), .string s2, .int .i64 t2, .int .u8 ((K2 : Nat) : Int), .int .i64 N2, .string z2, .slice va2 m2 cc2, .slice fa2 fn2 fc2, .int .i64 q2]] X fun e w' => e = .returned (.bool (o.same p)) ∧ Below X.heap.size X w') := fun X hX => by
      have hX2 := (unhide HW5).trans (hX.mono (unhide HW5).size)
      exact rOSame_any o p _ _ _ _ X (unhide HAX X hX2).1 (unhide HAX X hX2).2.1 (unhide HLO) (unhide HSM)
    generalize o.same p = sm at *
    have hmm : (sm != sm) = false := by cases sm <;> rfl
    have hnn : (nb != nb) = false := by cases nb <;> rfl
    have HCI2 : Hid (∀ X, Below w5.heap.size w5 X → Calls Tryz.prog 8 #[.string zz] X fun e w' => e = .returned (.bool nb) ∧ w' = X) := fun X _ => unhide HCI X
    have HRN2 : Hid (∀ X, Below w5.heap.size w5 X → Calls Tryz.prog 9 #[.string zz] X fun e w' => e = .returned (.bool nb) ∧ w' = X) := fun X _ => unhide HRN X
    rcases unhide HO1 with ⟨rfl, rfl, rfl⟩ | ⟨rfl, rfl, rfl⟩
    · have hne : Nonempty (Later w5) := ⟨⟨w5, Below.refl _ _⟩⟩
      refine wp_region_later (by kernel_rfl) ?_
      repeat (go_big_quiet_step ((rename_i q9; first | (go_at_call 8; refine (unhide HCI2 _ q9.2).mono ?_; rintro e w7 ⟨rfl, hw⟩; exact ⟨rfl, q9.same hw⟩) | (go_at_call 9; refine (unhide HRN2 _ q9.2).mono ?_; rintro e w7 ⟨rfl, hw⟩; exact ⟨rfl, q9.same hw⟩) | (go_at_call 10; refine (unhide HOR _ q9.2).mono ?_; rintro e w7 ⟨rfl, hb⟩; exact ⟨rfl, q9.then hb⟩) | (go_at_call 11; refine (unhide HOS _ q9.2).mono ?_; rintro e w7 ⟨rfl, hb⟩; exact ⟨rfl, q9.then hb⟩) | (go_at_call 12; refine (unhide HRS _ q9.2).mono ?_; rintro e w7 ⟨rfl, hb⟩; exact ⟨rfl, q9.then hb⟩))))
      refine wpQuiet_nil ?_
      rintro _ ⟨q9, rfl⟩
      have HFIN : Hid (Below w5.heap.size w5 q9.1) := q9.2
      generalize q9.1 = W20 at *
      go_wp2_with fail
      go_meet
      exact ⟨rfl, unhide HFIN⟩
    · have hne : Nonempty (Later w5) := ⟨⟨w5, Below.refl _ _⟩⟩
      refine wp_region_later (by kernel_rfl) ?_
      repeat (go_big_quiet_step ((rename_i q9; first | (go_at_call 8; refine (unhide HCI2 _ q9.2).mono ?_; rintro e w7 ⟨rfl, hw⟩; exact ⟨rfl, q9.same hw⟩) | (go_at_call 9; refine (unhide HRN2 _ q9.2).mono ?_; rintro e w7 ⟨rfl, hw⟩; exact ⟨rfl, q9.same hw⟩) | (go_at_call 10; refine (unhide HOR _ q9.2).mono ?_; rintro e w7 ⟨rfl, hb⟩; exact ⟨rfl, q9.then hb⟩) | (go_at_call 11; refine (unhide HOS _ q9.2).mono ?_; rintro e w7 ⟨rfl, hb⟩; exact ⟨rfl, q9.then hb⟩) | (go_at_call 12; refine (unhide HRS _ q9.2).mono ?_; rintro e w7 ⟨rfl, hb⟩; exact ⟨rfl, q9.then hb⟩))))
      refine wpQuiet_nil ?_
      rintro _ ⟨q9, rfl⟩
      have HFIN : Hid (Below w5.heap.size w5 q9.1) := q9.2
      generalize q9.1 = W20 at *
      go_wp2_with fail
      go_meet
      exact ⟨rfl, unhide HFIN⟩
  obtain ⟨rfl, hb6⟩ := hcut
  have HB6 := hide ((unhide HB5).trans (hb6.mono (unhide HB5).size))
  have HW6 := hide ((unhide HW5).trans (hb6.mono (unhide HW5).size))
  have HP6 := hide ((unhide HP1).laterW hb6)
  clear d0 d1 d2 d3 d4 d5 d6 d7 d8 k0 k1 k2 k3 k4 k5 k6 k7 k8
  obtain ⟨⟨d0, d1, d2, d3, d4, d5, d6, d7, d8⟩, k0, k1, k2, k3, k4, k5, k6, k7, k8⟩ := unhide HKS _ (unhide HB6)
  clear hb6 HB5 HW5 HP1 HCI HRN HLO HSM HIL
  go_upto_if 82 with fail
  go_cut [] (fun wx => Below wc.heap.size wc wx)
  case first =>
    rcases unhide HO1 with ⟨rfl, rfl, rfl⟩ | ⟨rfl, rfl, rfl⟩
    · go_wp2_with fail
      refine (rOBytes_any o _ _ wc (unhide HAX _ (unhide HW6)).1 (unhide HRT).symm).mono ?_
      rintro e w7 ⟨r7, rfl, hO⟩
      obtain ⟨qa, qc, rfl, -⟩ := own_formS hO
      have HR7 := hide hO.fresh.1.1
      have HP7 := hide ((unhide HP6).laterW hO.bb)
      have HB7 := hide hO.bb
      obtain ⟨qn, hqn⟩ : ∃ qn, qn = o.bytes.length := ⟨_, rfl⟩
      rw [← hqn] at HR7 ⊢
      clear hO hqn HP6 d0 d1 d2 d3 d4 d5 d6 d7 d8 k0 k1 k2 k3 k4 k5 k6 k7 k8
      go_wp2_with fail
      refine (wSame_true _ _ o.bytes _ (unhide HP7) (unhide HR7)).mono ?_
      rintro e w8 ⟨rfl, hw⟩
      rw [hw]
      clear hw w8
      go_wp2_with fail
      go_meet
      exact unhide HB7
    · go_wp2_with fail
      go_meet
      exact Below.refl _ _
  have HW7 := hide ((unhide HW6).trans (hcut.mono (unhide HW6).size))
  clear hcut HB6 HW6 HP6 HO1 HRT HKS HB1
  clear d0 d1 d2 d3 d4 d5 d6 d7 d8 k0 k1 k2 k3 k4 k5 k6 k7 k8
  go_wp2_with fail
  refine (oParse_any a n c bs _ (unhide HAX _ (unhide HW7)).2.2.1 (by have := unhide HN; omega) (unhide HAX _ (unhide HW7)).2.2.2).mono ?_
  rintro e w8 ⟨x, ux, er, rfl, hAx, hlx, hb8, hor⟩
  obtain ⟨L3, s3, t3, K3, N3, z3, va3, m3, cc3, fa3, fn3, fc3, q3, rfl, -⟩ := hAx.form
  unfold OD.form9 at *
  obtain ⟨w9, hw9⟩ : ∃ w9, w9 = w8.alloc (.cells #[.int .u8 ((L3 : Nat) : Int), .string s3, .int .i64 t3, .int .u8 ((K3 : Nat) : Int), .int .i64 N3, .string z3, .slice va3 m3 cc3, .slice fa3 fn3 fc3, .int .i64 q3] 27) := ⟨_, rfl⟩
  have hb9 : Below w8.heap.size w8 w9 := by rw [hw9]; exact (Below.refl _ _).alloc (Nat.le_refl _) _
  have hr9 : w9.heap[w8.heap.size]? = some (.cells #[.int .u8 ((L3 : Nat) : Int), .string s3, .int .i64 t3, .int .u8 ((K3 : Nat) : Int), .int .i64 N3, .string z3, .slice va3 m3 cc3, .slice fa3 fn3 fc3, .int .i64 q3] 27 (0, 0)) := by rw [hw9]; exact heap_alloc_new _ _
  have HC9 : Hid (∀ X, Below w9.heap.size w9 X → X.cell? ⟨w8.heap.size, 0, none⟩ = some (.int .u8 ((L3 : Nat) : Int)) ∧ X.cell? ⟨w8.heap.size, 1, none⟩ = some (.string s3) ∧ X.cell? ⟨w8.heap.size, 2, none⟩ = some (.int .i64 t3) ∧ X.cell? ⟨w8.heap.size, 3, none⟩ = some (.int .u8 ((K3 : Nat) : Int)) ∧ X.cell? ⟨w8.heap.size, 4, none⟩ = some (.int .i64 N3) ∧ X.cell? ⟨w8.heap.size, 5, none⟩ = some (.string z3) ∧ X.cell? ⟨w8.heap.size, 6, none⟩ = some (.slice va3 m3 cc3) ∧ X.cell? ⟨w8.heap.size, 7, none⟩ = some (.slice fa3 fn3 fc3) ∧ X.cell? ⟨w8.heap.size, 8, none⟩ = some (.int .i64 q3)) := fun X hX => cells9 ((hX.block _ (Array.getElem?_eq_some_iff.1 hr9).1).trans hr9)
  have HA9 : Hid (∀ X, Below w9.heap.size w9 X → x.At (fun _ => True) X (.agg #[.int .u8 ((L3 : Nat) : Int), .string s3, .int .i64 t3, .int .u8 ((K3 : Nat) : Int), .int .i64 N3, .string z3, .slice va3 m3 cc3, .slice fa3 fn3 fc3, .int .i64 q3])) := fun X hX => ((hAx.later hb9).later hX).wider fun _ _ => trivial
  have HW9 := hide ((unhide HW7).trans ((hb8.trans (hb9.mono hb8.size)).mono (unhide HW7).size))
  have HLX := hide hlx
  have HQ9 := hide hw9
  have HOR := hide hor
  clear hAx hlx hb8 hb9 hr9 hw9 hor HW7
  go_upto_region 12 with fail
  rw [← unhide HQ9]
  clear HQ9
  go_wp2_with fail
  refine (rOParse_any a n c bs _ (unhide HAX _ (unhide HW9)).2.2.1 (by have := unhide HN; omega)).mono ?_
  rintro e w10 ⟨y, uy, ok, rfl, hAy, -, hb10, hor2⟩
  obtain ⟨L4, s4, t4, K4, N4, z4, va4, m4, cc4, fa4, fn4, fc4, q4, rfl, -⟩ := hAy.form
  unfold OD.form9 at *
  obtain ⟨w11, hw11⟩ : ∃ w11, w11 = w10.alloc (.cells #[.int .u8 ((L4 : Nat) : Int), .string s4, .int .i64 t4, .int .u8 ((K4 : Nat) : Int), .int .i64 N4, .string z4, .slice va4 m4 cc4, .slice fa4 fn4 fc4, .int .i64 q4] 27) := ⟨_, rfl⟩
  have hb11 : Below w10.heap.size w10 w11 := by rw [hw11]; exact (Below.refl _ _).alloc (Nat.le_refl _) _
  have hr11 : w11.heap[w10.heap.size]? = some (.cells #[.int .u8 ((L4 : Nat) : Int), .string s4, .int .i64 t4, .int .u8 ((K4 : Nat) : Int), .int .i64 N4, .string z4, .slice va4 m4 cc4, .slice fa4 fn4 fc4, .int .i64 q4] 27 (0, 0)) := by rw [hw11]; exact heap_alloc_new _ _
  have hb911 : Below w9.heap.size w9 w11 := hb10.trans (hb11.mono hb10.size)
  have HXY : Hid (x = y ∧ SmallF x.frag ∧ ((er = 0 ∧ ok = true) ∨ (er = 30 ∧ ok = false))) := by
    have hgx := (unhide HA9 _ (Below.refl _ _)).good
    have hgy := hAy.good
    rcases unhide HOR with ⟨h0, hr0, he0⟩ | ⟨h0, hno, hz0⟩
    · rcases hor2 with ⟨h1, hr1, he1⟩ | ⟨h1, hno, hz1⟩
      · exact ⟨OD.bytes_inj hr0 hr1 (he0.symm.trans he1), right_small hr0, .inl ⟨h0, h1⟩⟩
      · exact absurd he0 (hno x (hgx hr0))
    · rcases hor2 with ⟨h1, hr1, he1⟩ | ⟨h1, -, hz1⟩
      · exact absurd he1 (hno y (hgy hr1))
      · exact ⟨hz0.trans hz1.symm, by rw [hz0]; exact ⟨Nat.zero_le _, fun y hy => by cases hy⟩, .inr ⟨h0, h1⟩⟩
  obtain ⟨rfl, hsmx, hor3⟩ := unhide HXY
  have HSS := hide (rOSame_any x x _ _ _ _ w11 (unhide HA9 _ hb911) (hAy.later hb11) (unhide HLX) hsmx)
  have HW11 := hide ((unhide HW9).trans (hb911.mono (unhide HW9).size))
  obtain ⟨d0, d1, d2, d3, d4, d5, d6, d7, d8⟩ := unhide HC9 _ hb911
  obtain ⟨k0, k1, k2, k3, k4, k5, k6, k7, k8⟩ := cells9 hr11
  have HQ11 := hide hw11
  clear hAy hb10 hor2 hb11 hr11 hb911 hw11 hsmx HXY HOR HA9 HC9 HLX HW9
  go_upto_region 13 with fail
  rw [← unhide HQ11]
  clear HQ11
  rcases hor3 with ⟨rfl, rfl⟩ | ⟨rfl, rfl⟩
  · go_wp2_with fail
    refine (unhide HSS).mono ?_
    rintro e w12 ⟨rfl, hb12⟩
    rw [OD.same_self]
    have HW12 := hide ((unhide HW11).trans (hb12.mono (unhide HW11).size))
    clear hb12 d0 d1 d2 d3 d4 d5 d6 d7 d8 k0 k1 k2 k3 k4 k5 k6 k7 k8
    go_wp2_with fail
    refine (unhide HAW _ (unhide HW12)).mono ?_
    rintro e w13 ⟨rfl, hb13⟩
    have HB13 := hide hb13
    clear hb13
    go_wp2_with fail
    go_ret
    exact ⟨rfl, unhide HB13⟩
  · go_wp2_with fail
    refine (unhide HSS).mono ?_
    rintro e w12 ⟨rfl, hb12⟩
    rw [OD.same_self]
    have HW12 := hide ((unhide HW11).trans (hb12.mono (unhide HW11).size))
    clear hb12 d0 d1 d2 d3 d4 d5 d6 d7 d8 k0 k1 k2 k3 k4 k5 k6 k7 k8
    go_wp2_with fail
    refine (unhide HAW _ (unhide HW12)).mono ?_
    rintro e w13 ⟨rfl, hb13⟩
    have HB13 := hide hb13
    clear hb13
    go_wp2_with fail
    go_ret
    exact ⟨rfl, unhide HB13⟩
end Go.Proofs.YtdlbpbglidhlfaaGreatDoor
