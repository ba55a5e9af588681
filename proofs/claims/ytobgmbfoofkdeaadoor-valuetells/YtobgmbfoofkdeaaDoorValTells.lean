/- ValueTells of foremanlaw08: its walk. No statement of the seat is proved here. -/
import Derived.Test.YtobgmbfoofkdeaaDoorValForms
import Derived.Test.YtobgmbfoofkdeaaDoorBase02
import Derived.Test.YtobgmbfoofkdeaaDoorBase09
namespace Go.Proofs.YtobgmbfoofkdeaaDoor
open Go.RowKit

theorem refTookForm {w : World} {bs : List UInt8} {e : Ending} {W : World} (h : TookV w bs 6 e W) : ∃ (x : VD) (K m c : Nat) (N : Int) (z : ByteArray) (a : Option Addr) (J : Nat), e = .returned (.tuple #[.agg #[.int .u8 ((K : Nat) : Int), .int .i64 N, .string z, .slice a m c], .int .i64 ((J : Nat) : Int)]) ∧ x.At (fun k => w.heap.size ≤ k) W (.agg #[.int .u8 ((K : Nat) : Int), .int .i64 N, .string z, .slice a m c]) ∧ (VReads bs 6 x J ∨ (NoVal bs 6 ∧ x = .mk 0 0 [] [] ∧ J = 0)) := by
  rcases h with ⟨v, j, u, hv, rfl, hA⟩ | ⟨hN, rfl⟩
  · obtain ⟨K, m, c, N, z, a, rfl⟩ := hA.form
    exact ⟨v, K, m, c, N, z, a, j, rfl, hA, .inl hv⟩
  · exact ⟨.mk 0 0 [] [], 0, 0, 0, 0, ⟨#[]⟩, none, 0, rfl, at_plain (k := 0) (n := 0) (s := []) (by omega) (by unfold InR; omega) (Nat.zero_le _), .inr ⟨hN, rfl, rfl⟩⟩
theorem parseForm {w : World} {n : Nat} {bs : List UInt8} {e : Ending} {W : World} (h : ParsedV w bs e W) (hl : bs.length = n) : ∃ (x : VD) (K m c : Nat) (N : Int) (z : ByteArray) (a : Option Addr) (er : Int), e = .returned (.tuple #[.agg #[.int .u8 ((K : Nat) : Int), .int .i64 N, .string z, .slice a m c], .int .i64 er]) ∧ x.At (fun k => w.heap.size ≤ k) W (.agg #[.int .u8 ((K : Nat) : Int), .int .i64 N, .string z, .slice a m c]) ∧ ((er = 0 ∧ VReads bs 6 x n) ∨ (er = 30 ∧ x = .mk 0 0 [] [] ∧ ∀ v, ¬ VReads bs 6 v n)) := by
  rcases h with ⟨v, u, hv, hA, rfl⟩ | ⟨hN, rfl⟩
  · obtain ⟨K, m, c, N, z, a, rfl⟩ := hA.form
    exact ⟨v, K, m, c, N, z, a, 0, rfl, hA, .inl ⟨rfl, by rw [← hl]; exact hv⟩⟩
  · exact ⟨.mk 0 0 [] [], 0, 0, 0, 0, ⟨#[]⟩, none, 30, rfl, at_plain (k := 0) (n := 0) (s := []) (by omega) (by unfold InR; omega) (Nat.zero_le _), .inr ⟨rfl, rfl, by rw [← hl]; exact hN⟩⟩

set_option maxRecDepth 100000 in
set_option maxHeartbeats 2000000 in
theorem tellsLaw_any (a : Option Addr) (n c : Nat) (bs : List UInt8) (v v2 : VD) (u u2 : Value) (w : World) (h : Bytes w (.slice a n c) bs) (hA : v.At (fun _ => True) w u) (hA2 : v2.At (fun _ => True) w u2) (hT : Tab w) : Calls Tryd.prog 3 #[u, u2, .slice a n c] w fun e w' => e = .returned (.bool true) ∧ Below w.heap.size w w' := by
  have hbl : bs.length = n := (bytes_len h).1
  obtain ⟨K, m, cc, N, z, l, rfl⟩ := hA.form
  obtain ⟨K2, m2, cc2, N2, z2, l2, rfl⟩ := hA2.form
  obtain ⟨W1, hW1⟩ : ∃ W1, W1 = (w.alloc (.cells #[.int .u8 ((K : Nat) : Int), .int .i64 N, .string z, .slice l m cc] 24)).alloc (.cells #[.int .u8 ((K2 : Nat) : Int), .int .i64 N2, .string z2, .slice l2 m2 cc2] 24) := ⟨_, rfl⟩
  have hb1 : Below w.heap.size w W1 := by rw [hW1]; exact ((Below.refl _ w).alloc (Nat.le_refl _) _).alloc (by rw [World.size_alloc]; omega) _
  have hr1 : W1.heap[w.heap.size]? = some (.cells #[.int .u8 ((K : Nat) : Int), .int .i64 N, .string z, .slice l m cc] 24 (0, 0)) := by rw [hW1]; exact (((Below.refl _ _).alloc (Nat.le_refl _) _).block _ (lt_rowV (heap_alloc_new w _))).trans (heap_alloc_new w _)
  have hs1 : W1.heap[w.heap.size + 1]? = some (.cells #[.int .u8 ((K2 : Nat) : Int), .int .i64 N2, .string z2, .slice l2 m2 cc2] 24 (0, 0)) := by rw [hW1]; have := heap_alloc_new (w.alloc (.cells #[.int .u8 ((K : Nat) : Int), .int .i64 N, .string z, .slice l m cc] 24)) (.cells #[.int .u8 ((K2 : Nat) : Int), .int .i64 N2, .string z2, .slice l2 m2 cc2] 24); rwa [World.size_alloc] at this
  have HAA : Hid (∀ X, Below W1.heap.size W1 X → v.At (fun _ => True) X (.agg #[.int .u8 ((K : Nat) : Int), .int .i64 N, .string z, .slice l m cc]) ∧ v2.At (fun _ => True) X (.agg #[.int .u8 ((K2 : Nat) : Int), .int .i64 N2, .string z2, .slice l2 m2 cc2]) ∧ Bytes X (.slice a n c) bs ∧ Tab X) := fun X hX => ⟨(hA.later hb1).later hX, (hA2.later hb1).later hX, (h.laterW hb1).laterW hX, (hT.later hb1).later hX⟩
  have HKS : Hid (∀ X, Below W1.heap.size W1 X → (X.cell? ⟨w.heap.size, 0, none⟩ = some (.int .u8 ((K : Nat) : Int)) ∧ X.cell? ⟨w.heap.size, 1, none⟩ = some (.int .i64 N) ∧ X.cell? ⟨w.heap.size, 2, none⟩ = some (.string z) ∧ X.cell? ⟨w.heap.size, 3, none⟩ = some (.slice l m cc)) ∧ (X.cell? ⟨w.heap.size + 1, 0, none⟩ = some (.int .u8 ((K2 : Nat) : Int)) ∧ X.cell? ⟨w.heap.size + 1, 1, none⟩ = some (.int .i64 N2) ∧ X.cell? ⟨w.heap.size + 1, 2, none⟩ = some (.string z2) ∧ X.cell? ⟨w.heap.size + 1, 3, none⟩ = some (.slice l2 m2 cc2))) := fun X hX => ⟨(cells4 ((hX.block _ (lt_rowV hr1)).trans hr1)).1, (cells4 ((hX.block _ (lt_rowV hs1)).trans hs1)).1⟩
  have HB1 := hide hb1
  have HW1 := hide hW1
  have HBL := hide hbl
  clear hA hA2 hT h hW1 hb1 hr1 hs1 hbl
  go_enter Tryd.func3, Tryd.ntmps3
  go_upto_region 1 with fail
  rw [← unhide HW1]
  clear HW1
  obtain ⟨⟨a0, a1, a2, a3⟩, b0, b1, b2, b3⟩ := unhide HKS W1 (Below.refl _ _)
  go_cut [30] (fun t wx => (∃ r : Bool, t = .bool r ∧ (r = false → n ≤ 1500 ∧ (v.deep ≤ 20 ∧ v.parts ≤ 600) ∧ (v2.deep ≤ 20 ∧ v2.parts ≤ 600))) ∧ Below W1.heap.size W1 wx)
  case first =>
    go_wp2_with fail
    refine (vFewTop_any v _ _ _ (unhide HAA W1 (Below.refl _ _)).1).mono ?_
    rintro e W2 ⟨⟨q, rfl, hq⟩, hb2⟩
    have HQ := hide hq
    have HB2 := hide hb2
    clear hq hb2 a0 a1 a2 a3 b0 b1 b2 b3
    obtain ⟨⟨a0, a1, a2, a3⟩, b0, b1, b2, b3⟩ := unhide HKS W2 (unhide HB2)
    cases q with
    | false =>
      go_wp2_with fail
      go_meet
      exact ⟨⟨true, rfl, fun h => by cases h⟩, unhide HB2⟩
    | true =>
      go_wp2_with fail
      refine (vFewTop_any v2 _ _ _ (unhide HAA W2 (unhide HB2)).2.1).mono ?_
      rintro e W3 ⟨⟨q, rfl, hq⟩, hb3⟩
      have HQ2 := hide hq
      have HB3 := hide ((unhide HB2).trans (hb3.mono (unhide HB2).size))
      clear hq hb3 a0 a1 a2 a3 b0 b1 b2 b3
      cases q with
      | false =>
        go_wp2_with fail
        go_meet
        exact ⟨⟨true, rfl, fun h => by cases h⟩, unhide HB3⟩
      | true =>
        by_cases hn : ((n : Nat) : Int) > 1500
        · go_wp2_with fail
          go_meet
          exact ⟨⟨true, by simp, fun h => by cases h⟩, unhide HB3⟩
        · have HN : Hid (n ≤ 1500) := by show _ ≤ _; omega
          have hnd : decide (((n : Nat) : Int) > 1500) = false := decide_eq_false hn
          go_wp2_with fail
          go_meet
          exact ⟨⟨false, by simp, fun _ => ⟨unhide HN, unhide HQ trivial, unhide HQ2 trivial⟩⟩, unhide HB3⟩
  obtain ⟨⟨r, rfl, hr⟩, hb2⟩ := hcut
  have HR := hide hr
  have HB2 := hide hb2
  clear hr hb2 a0 a1 a2 a3 b0 b1 b2 b3
  cases r with
  | true =>
    go_wp2_with fail
    refine (awake_any wc (unhide HAA wc (unhide HB2)).2.2.2).mono ?_
    rintro e W3 ⟨rfl, hb3⟩
    have HB3 := hide ((unhide HB1).trans (((unhide HB2).trans (hb3.mono (unhide HB2).size)).mono (unhide HB1).size))
    clear hb3
    go_wp2_with fail
    go_ret
    exact ⟨rfl, unhide HB3⟩
  | false =>
    obtain ⟨hn, hv, hv2⟩ := unhide HR rfl
    have HN := hide hn
    have HV : Hid (v.deep ≤ 1000 ∧ v.parts ≤ 1000000) := ⟨by omega, by omega⟩
    have HV2 : Hid (v2.deep ≤ 1000 ∧ v2.parts ≤ 1000000) := ⟨by omega, by omega⟩
    clear hn hv hv2 HR
    obtain ⟨⟨a0, a1, a2, a3⟩, b0, b1, b2, b3⟩ := unhide HKS wc (unhide HB2)
    go_wp2_with fail
    refine (vBytes_any v _ _ _ (unhide HAA _ (unhide HB2)).1).mono ?_
    rintro e W6 hB6
    obtain ⟨pa, pn, pc, e1, r1, rfl, hp1, hb6, ho1⟩ := bytesForm hB6
    have HB6 := hide ((unhide HB2).trans (hb6.mono (unhide HB2).size))
    have HP1 := hide hp1
    have HO1 := hide ho1
    clear hB6 hp1 hb6 ho1 a0 a1 a2 a3 b0 b1 b2 b3
    obtain ⟨⟨a0, a1, a2, a3⟩, b0, b1, b2, b3⟩ := unhide HKS _ (unhide HB6)
    go_wp2_with fail
    refine (vRefRight_any v _ _ _ (unhide HAA _ (unhide HB6)).1 (unhide HV).2).mono ?_
    rintro e W7 ⟨rfl, hb7⟩
    obtain ⟨rt, hrt⟩ : ∃ rt, rt = v.right := ⟨_, rfl⟩
    rw [← hrt]
    have HB7 : Hid (Below W1.heap.size W1 W7) := (unhide HB6).trans (hb7.mono (unhide HB6).size)
    have HP17 := hide ((unhide HP1).laterW hb7)
    have HRT := hide hrt
    have HA7 : Hid (∀ X, Below W7.heap.size W7 X → _) := fun X hX => unhide HAA X ((unhide HB7).trans (hX.mono (unhide HB7).size))
    obtain ⟨P, hP⟩ : ∃ P, P = v.parts := ⟨_, rfl⟩
    obtain ⟨sm, hsm⟩ : ∃ sm, sm = v.same v2 := ⟨_, rfl⟩
    have HC1 : Hid (∀ X, Below W7.heap.size W7 X → Calls Tryd.prog 12 #[.agg #[.int .u8 ((K : Nat) : Int), .int .i64 N, .string z, .slice l m cc]] X fun e w' => e = .returned (.bool rt) ∧ Below X.heap.size X w') := fun X hX => by rw [hrt]; exact right_any v _ _ X (unhide HA7 X hX).1
    have HC2 : Hid (∀ X, Below W7.heap.size W7 X → Calls Tryd.prog 13 #[.agg #[.int .u8 ((K : Nat) : Int), .int .i64 N, .string z, .slice l m cc]] X fun e w' => e = .returned (.int .i64 ((P : Nat) : Int)) ∧ Below X.heap.size X w') := fun X hX => by rw [hP]; exact parts_any v _ _ X (unhide HA7 X hX).1 (unhide HV).2 (unhide HV).1
    have HC3 : Hid (∀ X, Below W7.heap.size W7 X → Calls Tryd.prog 14 #[.agg #[.int .u8 ((K : Nat) : Int), .int .i64 N, .string z, .slice l m cc]] X fun e w' => e = .returned (.int .i64 ((P : Nat) : Int)) ∧ Below X.heap.size X w') := fun X hX => by rw [hP]; exact vRefParts_any v _ _ X (unhide HA7 X hX).1 (unhide HV).2
    have HC4 : Hid (∀ X, Below W7.heap.size W7 X → Calls Tryd.prog 15 #[.agg #[.int .u8 ((K : Nat) : Int), .int .i64 N, .string z, .slice l m cc], .agg #[.int .u8 ((K2 : Nat) : Int), .int .i64 N2, .string z2, .slice l2 m2 cc2]] X fun e w' => e = .returned (.bool sm) ∧ Below X.heap.size X w') := fun X hX => by rw [hsm]; exact same_any v v2 _ _ _ _ X (unhide HA7 X hX).1 (unhide HA7 X hX).2.1 (unhide HV).2 (unhide HV).1
    have HC5 : Hid (∀ X, Below W7.heap.size W7 X → Calls Tryd.prog 16 #[.agg #[.int .u8 ((K : Nat) : Int), .int .i64 N, .string z, .slice l m cc], .agg #[.int .u8 ((K2 : Nat) : Int), .int .i64 N2, .string z2, .slice l2 m2 cc2]] X fun e w' => e = .returned (.bool sm) ∧ Below X.heap.size X w') := fun X hX => by rw [hsm]; exact vRefSame_any v v2 _ _ _ _ X (unhide HA7 X hX).1 (unhide HA7 X hX).2.1 (unhide HV).2
    clear hb7 hrt hP hsm a0 a1 a2 a3 b0 b1 b2 b3 HP1
    obtain ⟨⟨a0, a1, a2, a3⟩, b0, b1, b2, b3⟩ := unhide HKS _ (unhide HB7)
    have hne : Nonempty (Later W7) := ⟨⟨W7, Below.refl _ _⟩⟩
    have l1 := Later.cell a0
    have l2' := Later.cell a1
    have l3 := Later.cell a2
    have l4 := Later.cell a3
    have m1 := Later.cell b0
    have m2' := Later.cell b1
    have m3 := Later.cell b2
    have m4 := Later.cell b3
    go_upto_region 5 with fail
    go_cut [77] (fun t wx => t = .bool false ∧ Below W7.heap.size W7 wx)
    case first =>
      rcases unhide HO1 with ⟨hr, rfl, -⟩ | ⟨hr, rfl, -, rfl⟩
      · obtain rfl : rt = true := by rw [unhide HRT]; exact hr
        refine wp_region_later (by kernel_rfl) ?_
        repeat (go_big_quiet_step ((rename_i q; first
          | (have _t := q; go_at_call 12; refine (unhide HC1 _ q.2).mono ?_; rintro e w11 ⟨rfl, hb11⟩; exact ⟨rfl, q.then hb11⟩)
          | (go_at_call 13; refine (unhide HC2 _ q.2).mono ?_; rintro e w11 ⟨rfl, hb11⟩; exact ⟨rfl, q.then hb11⟩)
          | (go_at_call 14; refine (unhide HC3 _ q.2).mono ?_; rintro e w11 ⟨rfl, hb11⟩; exact ⟨rfl, q.then hb11⟩)
          | (go_at_call 15; refine (unhide HC4 _ q.2).mono ?_; rintro e w11 ⟨rfl, hb11⟩; exact ⟨rfl, q.then hb11⟩)
          | (go_at_call 16; refine (unhide HC5 _ q.2).mono ?_; rintro e w11 ⟨rfl, hb11⟩; exact ⟨rfl, q.then hb11⟩))))
        refine wpQuiet_nil ?_
        rintro _ ⟨q, rfl⟩
        have HFIN : Hid (Below W7.heap.size W7 q.1) := q.2
        generalize q.1 = W20 at *
        go_wp2_with fail
        go_meet
        exact ⟨rfl, unhide HFIN⟩
      · obtain rfl : rt = false := by rw [unhide HRT]; exact hr
        refine wp_region_later (by kernel_rfl) ?_
        repeat (go_big_quiet_step ((rename_i q; first
          | (have _t := q; go_at_call 12; refine (unhide HC1 _ q.2).mono ?_; rintro e w11 ⟨rfl, hb11⟩; exact ⟨rfl, q.then hb11⟩)
          | (go_at_call 13; refine (unhide HC2 _ q.2).mono ?_; rintro e w11 ⟨rfl, hb11⟩; exact ⟨rfl, q.then hb11⟩)
          | (go_at_call 14; refine (unhide HC3 _ q.2).mono ?_; rintro e w11 ⟨rfl, hb11⟩; exact ⟨rfl, q.then hb11⟩)
          | (go_at_call 15; refine (unhide HC4 _ q.2).mono ?_; rintro e w11 ⟨rfl, hb11⟩; exact ⟨rfl, q.then hb11⟩)
          | (go_at_call 16; refine (unhide HC5 _ q.2).mono ?_; rintro e w11 ⟨rfl, hb11⟩; exact ⟨rfl, q.then hb11⟩))))
        refine wpQuiet_nil ?_
        rintro _ ⟨q, rfl⟩
        have HFIN : Hid (Below W7.heap.size W7 q.1) := q.2
        generalize q.1 = W20 at *
        go_wp2_with fail
        go_meet
        exact ⟨rfl, unhide HFIN⟩
    obtain ⟨rfl, hb8⟩ := hcut
    have HB8' := hide hb8
    clear hb8 l1 l2' l3 l4 m1 m2' m3 m4 a0 a1 a2 a3 b0 b1 b2 b3 hne HC1 HC2 HC3 HC4 HC5
    go_upto_region 7 with fail
    generalize wc = W8 at *
    have HB8 : Hid (Below W1.heap.size W1 W8) := (unhide HB7).trans ((unhide HB8').mono (unhide HB7).size)
    have HA8 : Hid (∀ X, Below W8.heap.size W8 X → _) := fun X hX => unhide HAA X ((unhide HB8).trans (hX.mono (unhide HB8).size))
    have HP8 := hide ((unhide HP17).laterW (unhide HB8'))
    clear HP17 HB8' HA7
    obtain ⟨⟨a0, a1, a2, a3⟩, b0, b1, b2, b3⟩ := unhide HKS _ (unhide HB8)

    go_cut [92] (fun t wx => t = .bool false ∧ Below W8.heap.size W8 wx)
    case first =>
      rcases unhide HO1 with ⟨hr, rfl, rfl⟩ | ⟨hr, rfl, -, rfl⟩
      · obtain rfl : rt = true := by rw [unhide HRT]; exact hr
        have hk : v.kinds = true := (right_parts hr).1
        have hp10 : v.parts ≤ 10000 := by have := (right_parts hr).2.2; omega
        have HC1 : Hid (∀ X, Below W8.heap.size W8 X → Calls Tryd.prog 18 #[.agg #[.int .u8 ((K : Nat) : Int), .int .i64 N, .string z, .slice l m cc]] X fun e w' => ∃ qa qn qc, e = .returned (.slice qa qn qc) ∧ Bytes w' (.slice qa qn qc) v.bytes ∧ Below X.heap.size X w') := fun X hX => (vRefBytes_any v _ _ X (unhide HA8 X hX).1 (unhide HV).2 hk).mono fun e w' h => by
          obtain ⟨r, rfl, hO⟩ := h
          obtain ⟨qa, qc, rfl, _⟩ := hO.fresh.1.1.form
          exact ⟨qa, _, qc, rfl, hO.fresh.1.1, hO.bb⟩
        obtain ⟨zv, hzv⟩ : ∃ zv : ByteArray, zv = ⟨v.shown.toArray⟩ := ⟨_, rfl⟩
        have HC2 : Hid (∀ X, Below W8.heap.size W8 X → Calls Tryd.prog 19 #[.agg #[.int .u8 ((K : Nat) : Int), .int .i64 N, .string z, .slice l m cc]] X fun e w' => e = .returned (.string zv) ∧ Below X.heap.size X w') := fun X hX => by rw [hzv]; exact vShow_any v _ _ X (unhide HA8 X hX).1 hr (unhide HA8 X hX).2.2.2
        have HC3 : Hid (∀ X, Below W8.heap.size W8 X → Calls Tryd.prog 20 #[.agg #[.int .u8 ((K : Nat) : Int), .int .i64 N, .string z, .slice l m cc]] X fun e w' => e = .returned (.string zv) ∧ Below X.heap.size X w') := fun X hX => by rw [hzv]; exact vRefShow_any v _ _ X (unhide HA8 X hX).1 hp10 hk
        have HP : Hid (∀ X, Below W8.heap.size W8 X → Bytes X (.slice pa pn pc) v.bytes) := fun X hX => (unhide HP8).laterW hX
        have HK8 : Hid (∀ X, Below W8.heap.size W8 X → X.cell? ⟨w.heap.size, 0, none⟩ = some (.int .u8 ((K : Nat) : Int)) ∧ X.cell? ⟨w.heap.size, 1, none⟩ = some (.int .i64 N) ∧ X.cell? ⟨w.heap.size, 2, none⟩ = some (.string z) ∧ X.cell? ⟨w.heap.size, 3, none⟩ = some (.slice l m cc) ∧ Below W8.heap.size W8 X) := fun X hX => by
          have h := (unhide HKS X ((unhide HB8).trans (hX.mono (unhide HB8).size))).1
          exact ⟨h.1, h.2.1, h.2.2.1, h.2.2.2, hX⟩
        clear hk hp10 hzv hr
        go_region_held3 (fun X => X.cell? ⟨w.heap.size, 0, none⟩ = some (.int .u8 ((K : Nat) : Int)) ∧ X.cell? ⟨w.heap.size, 1, none⟩ = some (.int .i64 N) ∧ X.cell? ⟨w.heap.size, 2, none⟩ = some (.string z) ∧ X.cell? ⟨w.heap.size, 3, none⟩ = some (.slice l m cc) ∧ Below W8.heap.size W8 X)
          ((refine unhide HK8 _ ?_; first | assumption | exact (Below.refl _ _).drew))
          (first
            | (go_at_call 18; refine (unhide HC1 _ (by assumption : _ ∧ _ ∧ _ ∧ _ ∧ Below W8.heap.size W8 _).2.2.2.2).mono ?_; rintro e w6 ⟨qa, qn, qc, rfl, hq6, hb6⟩; have h6 := (by assumption : _ ∧ _ ∧ _ ∧ _ ∧ Below W8.heap.size W8 _).2.2.2.2.trans (hb6.mono (by assumption : _ ∧ _ ∧ _ ∧ _ ∧ Below W8.heap.size W8 _).2.2.2.2.size); have HQ6 := hide hq6; clear hb6 hq6)
            | (go_at_call 17; refine (wSame_true _ _ v.bytes _ (unhide HP _ h6) (unhide HQ6)).mono ?_; rintro e w8 ⟨rfl, rfl⟩)
            | (go_at_call 19; refine (unhide HC2 _ h6).mono ?_; rintro e w7 ⟨rfl, hb7⟩; have h7 : Below W8.heap.size W8 w7 := h6.trans (hb7.mono h6.size); clear hb7)
            | (go_at_call 20; refine (unhide HC3 _ h7).mono ?_; rintro e w9 ⟨rfl, hb9⟩; have h9 : Below W8.heap.size W8 w9 := h7.trans (hb9.mono h7.size); clear hb9))
        all_goals (
          go_wp2_with fail
          go_meet
          exact ⟨rfl, h9⟩)
      · obtain rfl : rt = false := by rw [unhide HRT]; exact hr
        have hne : Nonempty (Later W8) := ⟨⟨W8, Below.refl _ _⟩⟩
        refine wp_region_later (by kernel_rfl) ?_
        repeat (go_big_quiet_step (fail))
        refine wpQuiet_nil ?_
        rintro _ ⟨q, rfl⟩
        have HFIN : Hid (Below W8.heap.size W8 q.1) := q.2
        generalize q.1 = W20 at *
        go_wp2_with fail
        go_meet
        exact ⟨rfl, unhide HFIN⟩
    obtain ⟨rfl, hb9⟩ := hcut
    have HB9 := hide ((unhide HB8).trans (hb9.mono (unhide HB8).size))
    clear hb9 a0 a1 a2 a3 b0 b1 b2 b3 HB7 HB8 HA8 HP8 HO1 HRT HB6 HB2 HKS HV HV2
    go_wp2_with fail
    refine (vTake_any a n c bs wc (unhide HAA wc (unhide HB9)).2.2.1 (by have := unhide HN; omega)).mono ?_
    rintro e W10 ⟨hTK, hb10⟩
    obtain ⟨x, kX, mX, cX, nX, zX, aX, ra, rn, rc, er, rfl, hx, hor⟩ := tookForm hTK (unhide HBL)
    obtain ⟨W11, hW11⟩ : ∃ W11, W11 = W10.alloc (.cells #[.int .u8 ((kX : Nat) : Int), .int .i64 nX, .string zX, .slice aX mX cX] 24) := ⟨_, rfl⟩
    have hb1011 : Below W10.heap.size W10 W11 := by rw [hW11]; exact (Below.refl _ _).alloc (Nat.le_refl _) _
    have hg11 : W11.heap[W10.heap.size]? = some (.cells #[.int .u8 ((kX : Nat) : Int), .int .i64 nX, .string zX, .slice aX mX cX] 24 (0, 0)) := by rw [hW11]; exact heap_alloc_new _ _
    have hb110 := (unhide HB9).trans (hb10.mono (unhide HB9).size)
    have HB11 : Hid (Below W1.heap.size W1 W11) := hb110.trans (hb1011.mono hb110.size)
    have HX : Hid (∀ X, Below W11.heap.size W11 X → x.At (fun k => wc.heap.size ≤ k) X (.agg #[.int .u8 ((kX : Nat) : Int), .int .i64 nX, .string zX, .slice aX mX cX]) ∧ X.cell? ⟨W10.heap.size, 0, none⟩ = some (.int .u8 ((kX : Nat) : Int)) ∧ X.cell? ⟨W10.heap.size, 1, none⟩ = some (.int .i64 nX) ∧ X.cell? ⟨W10.heap.size, 2, none⟩ = some (.string zX) ∧ X.cell? ⟨W10.heap.size, 3, none⟩ = some (.slice aX mX cX)) := fun X hX => ⟨(hx.later hb1011).later hX, (cells4 ((hX.block _ (lt_rowV hg11)).trans hg11)).1⟩
    have HRB : Hid (∀ X, Below W11.heap.size W11 X → er = 0 → ∃ j, rn + j = n ∧ VReads bs 6 x j ∧ Bytes X (.slice ra rn rc) (bs.drop j)) := fun X hX h0 => by
      rcases hor with ⟨-, j, hj, hjn, hvr, hB⟩ | ⟨h30, -⟩
      · exact ⟨j, hjn, hvr, (hB.laterW hb1011).laterW hX⟩
      · rw [h0] at h30; cases h30
    have HOR : Hid ((er = 0 ∧ ∃ j, j ≤ n ∧ rn + j = n ∧ VReads bs 6 x j) ∨ (er = 30 ∧ NoVal bs 6 ∧ x = .mk 0 0 [] [] ∧ rn = 0)) := by
      rcases hor with ⟨h0, j, hj, hjn, hvr, -⟩ | h
      · exact .inl ⟨h0, j, hj, hjn, hvr⟩
      · exact .inr h
    have HW11 := hide hW11
    clear hTK hb10 hx hor hb1011 hg11 hb110 hW11
    go_upto_region 10 with fail
    rw [← unhide HW11]
    clear HW11
    go_wp2_with fail
    refine (vRefTake_any a n c bs W11 (unhide HAA W11 (unhide HB11)).2.2.1 (by have := unhide HN; omega)).mono ?_
    rintro e W12 ⟨hTK, hb12⟩
    obtain ⟨y, kY, mY, cY, nY, zY, aY, J, rfl, hy, hor⟩ := refTookForm hTK
    obtain ⟨W13, hW13⟩ : ∃ W13, W13 = W12.alloc (.cells #[.int .u8 ((kY : Nat) : Int), .int .i64 nY, .string zY, .slice aY mY cY] 24) := ⟨_, rfl⟩
    have hb1213 : Below W12.heap.size W12 W13 := by rw [hW13]; exact (Below.refl _ _).alloc (Nat.le_refl _) _
    have hg13 : W13.heap[W12.heap.size]? = some (.cells #[.int .u8 ((kY : Nat) : Int), .int .i64 nY, .string zY, .slice aY mY cY] 24 (0, 0)) := by rw [hW13]; exact heap_alloc_new _ _
    have hb1113 : Below W11.heap.size W11 W13 := hb12.trans (hb1213.mono hb12.size)
    have HB1113 := hide hb1113
    have HB13 : Hid (Below W1.heap.size W1 W13) := (unhide HB11).trans (hb1113.mono (unhide HB11).size)
    have HY : Hid (∀ X, Below W13.heap.size W13 X → y.At (fun k => W11.heap.size ≤ k) X (.agg #[.int .u8 ((kY : Nat) : Int), .int .i64 nY, .string zY, .slice aY mY cY]) ∧ X.cell? ⟨W12.heap.size, 0, none⟩ = some (.int .u8 ((kY : Nat) : Int)) ∧ X.cell? ⟨W12.heap.size, 1, none⟩ = some (.int .i64 nY) ∧ X.cell? ⟨W12.heap.size, 2, none⟩ = some (.string zY) ∧ X.cell? ⟨W12.heap.size, 3, none⟩ = some (.slice aY mY cY)) := fun X hX => ⟨(hy.later hb1213).later hX, (cells4 ((hX.block _ (lt_rowV hg13)).trans hg13)).1⟩
    have HX13 : Hid (∀ X, Below W13.heap.size W13 X → _) := fun X hX => unhide HX X (hb1113.trans (hX.mono hb1113.size))
    have HRB13 : Hid (∀ X, Below W13.heap.size W13 X → _) := fun X hX => unhide HRB X (hb1113.trans (hX.mono hb1113.size))
    have HAA13 : Hid (∀ X, Below W13.heap.size W13 X → _) := fun X hX => unhide HAA X ((unhide HB13).trans (hX.mono (unhide HB13).size))
    have HXY : Hid (x = y ∧ x.parts ≤ 1000000 ∧ ((er = 0 ∧ 0 < J ∧ J ≤ n ∧ rn + J = n ∧ VReads bs 6 x J) ∨ (er = 30 ∧ NoVal bs 6 ∧ J = 0 ∧ rn = 0 ∧ x = .mk 0 0 [] []))) := by
      rcases unhide HOR with ⟨h0, j, hj, hjn, hvr⟩ | ⟨h30, hno, hx0, hrn⟩
      · rcases hor with hvr2 | ⟨hno, -⟩
        · obtain ⟨rfl, rfl⟩ := hvr.same hvr2
          refine ⟨rfl, by have := hvr.parts; omega, .inl ⟨h0, ?_, hj, hjn, hvr⟩⟩
          exact hvr.pos
        · exact absurd hvr (hno _ _)
      · rcases hor with hvr2 | ⟨-, hy0, hJ0⟩
        · exact absurd hvr2 (hno _ _)
        · exact ⟨by rw [hx0, hy0], by rw [hx0]; decide, .inr ⟨h30, hno, hJ0, hrn, hx0⟩⟩
    have HW13 := hide hW13
    clear hTK hb12 hy hor hb1213 hg13 hb1113 hW13 HX HRB HOR HB1113
    go_upto_region 11 with fail
    rw [← unhide HW13]
    clear HW13
    obtain ⟨-, a0, a1, a2, a3⟩ := unhide HX13 W13 (Below.refl _ _)
    obtain ⟨-, b0, b1, b2, b3⟩ := unhide HY W13 (Below.refl _ _)
    obtain ⟨hxy, hxp, hor⟩ := unhide HXY
    have HS1 : Hid (∀ X, Below W13.heap.size W13 X → Calls Tryd.prog 16 #[.agg #[.int .u8 ((kX : Nat) : Int), .int .i64 nX, .string zX, .slice aX mX cX], .agg #[.int .u8 ((kY : Nat) : Int), .int .i64 nY, .string zY, .slice aY mY cY]] X fun e w' => e = .returned (.bool true) ∧ Below X.heap.size X w') := fun X hX => (vRefSame_any x y _ _ _ _ X (unhide HX13 X hX).1 (unhide HY X hX).1 hxp).mono fun e w' h => by rw [(VD.same_iff x y).2 hxy] at h; exact h
    have HOR := hide hor
    clear hxy hxp hor
    go_cut [143] (fun t wx => t = .bool false ∧ Below W13.heap.size W13 wx)
    case first =>
      rcases unhide HOR with ⟨rfl, hJ0, hJn, hrn, hvr⟩ | ⟨rfl, hno, rfl, rfl, -⟩
      · obtain ⟨sa, sc, hS, q, q'⟩ := slice_from (unhide HAA13 W13 (Below.refl _ _)).2.2.1 hJn
        have hJd : decide (((J : Nat) : Int) > 0) = true := decide_eq_true (by omega)
        have hJd2 : decide (0 < J) = true := decide_eq_true (by omega)
        have hJi : (0 : Int) ≤ ((J : Nat) : Int) := by omega
        have hJi2 : ((J : Nat) : Int) ≤ ((n : Nat) : Int) := by omega
        have hrn2 : n - J = rn := by omega
        rw [hrn2] at hS q q'
        obtain ⟨j, hjn, hvr2, hRB⟩ := unhide HRB13 W13 (Below.refl _ _) rfl
        obtain rfl : j = J := by omega
        have HSL := hide hS
        have HRBJ := hide hRB
        clear hS hvr hvr2 hRB hrn hrn2 hJ0 hJn hjn
        go_wp2_with fail
        refine (unhide HS1 W13 (Below.refl _ _)).mono ?_
        rintro e W14 ⟨rfl, hb14⟩
        have HB14 := hide hb14
        have HSL14 := hide ((unhide HSL).laterW hb14)
        have HRB14 := hide ((unhide HRBJ).laterW hb14)
        clear hb14
        go_wp2_with fail
        refine (wSame_true _ _ (bs.drop j) _ (unhide HRB14) (unhide HSL14)).mono ?_
        rintro e W15 ⟨rfl, hw⟩
        rw [hw]
        clear hw W15
        go_wp2_with fail
        go_meet
        exact ⟨rfl, unhide HB14⟩
      · go_wp2_with fail
        refine (unhide HS1 W13 (Below.refl _ _)).mono ?_
        rintro e W14 ⟨rfl, hb14⟩
        have HB14 := hide hb14
        clear hb14
        go_wp2_with fail
        go_meet
        exact ⟨rfl, unhide HB14⟩
    obtain ⟨rfl, hb14⟩ := hcut
    have HB14' := hide hb14
    clear hb14 HS1 HRB13 a0 a1 a2 a3 b0 b1 b2 b3
    generalize wc = W14 at *
    have HY14 : Hid (∀ X, Below W14.heap.size W14 X → _) := fun X hX => unhide HY X ((unhide HB14').trans (hX.mono (unhide HB14').size))
    have HAA14 : Hid (∀ X, Below W14.heap.size W14 X → _) := fun X hX => unhide HAA13 X ((unhide HB14').trans (hX.mono (unhide HB14').size))
    have HB14 : Hid (Below W1.heap.size W1 W14) := (unhide HB13).trans ((unhide HB14').mono (unhide HB13).size)
    clear HX13 HY HAA13 HAA HB11 HB13 HB14' HB9
    go_wp2_with fail
    refine (vParse_any a n c bs W14 (unhide HAA14 W14 (Below.refl _ _)).2.2.1 (by have := unhide HN; omega)).mono ?_
    rintro e W15 ⟨hPV, hb15⟩
    obtain ⟨p, kP, mP, cP, nP, zP, aP, er2, rfl, hp, hor⟩ := parseForm hPV (unhide HBL)
    obtain ⟨W16, hW16⟩ : ∃ W16, W16 = W15.alloc (.cells #[.int .u8 ((kP : Nat) : Int), .int .i64 nP, .string zP, .slice aP mP cP] 24) := ⟨_, rfl⟩
    have hb1516 : Below W15.heap.size W15 W16 := by rw [hW16]; exact (Below.refl _ _).alloc (Nat.le_refl _) _
    have hg16 : W16.heap[W15.heap.size]? = some (.cells #[.int .u8 ((kP : Nat) : Int), .int .i64 nP, .string zP, .slice aP mP cP] 24 (0, 0)) := by rw [hW16]; exact heap_alloc_new _ _
    have hb1416 : Below W14.heap.size W14 W16 := hb15.trans (hb1516.mono hb15.size)
    have HP : Hid (∀ X, Below W16.heap.size W16 X → p.At (fun k => W14.heap.size ≤ k) X (.agg #[.int .u8 ((kP : Nat) : Int), .int .i64 nP, .string zP, .slice aP mP cP]) ∧ X.cell? ⟨W15.heap.size, 0, none⟩ = some (.int .u8 ((kP : Nat) : Int)) ∧ X.cell? ⟨W15.heap.size, 1, none⟩ = some (.int .i64 nP) ∧ X.cell? ⟨W15.heap.size, 2, none⟩ = some (.string zP) ∧ X.cell? ⟨W15.heap.size, 3, none⟩ = some (.slice aP mP cP)) := fun X hX => ⟨(hp.later hb1516).later hX, (cells4 ((hX.block _ (lt_rowV hg16)).trans hg16)).1⟩
    have HB16 : Hid (Below W1.heap.size W1 W16) := (unhide HB14).trans (hb1416.mono (unhide HB14).size)
    have HT16 : Hid (∀ X, Below W16.heap.size W16 X → Tab X) := fun X hX => (unhide HAA14 X (hb1416.trans (hX.mono hb1416.size))).2.2.2
    have HY16 : Hid (∀ X, Below W16.heap.size W16 X → _) := fun X hX => unhide HY14 X (hb1416.trans (hX.mono hb1416.size))
    have HPR : Hid ((er2 = 0 ∧ J = n ∧ 0 < n ∧ p = y ∧ p.parts ≤ 1000000) ∨ (er2 = 30 ∧ ¬ (0 < J ∧ J = n) ∧ p = .mk 0 0 [] [])) := by
      obtain ⟨hxy, hxp, hor2⟩ := unhide HXY
      rcases hor with ⟨h0, hvr⟩ | ⟨h30, hp0, hno⟩
      · rcases hor2 with ⟨-, hJ0, -, -, hvr2⟩ | ⟨-, hno, -⟩
        · obtain ⟨rfl, rfl⟩ := hvr.same hvr2
          exact .inl ⟨h0, rfl, hJ0, hxy, hxp⟩
        · exact absurd hvr (hno _ _)
      · refine .inr ⟨h30, ?_, hp0⟩
        rintro ⟨hJ0, rfl⟩
        rcases hor2 with ⟨-, -, -, -, hvr2⟩ | ⟨-, -, hJ, -⟩
        · exact hno _ hvr2
        · omega
    have HW16 := hide hW16
    clear hPV hb15 hp hor hb1516 hg16 hb1416 hW16 HXY HOR HY14 HAA14 HB14
    go_upto_region 14 with fail
    rw [← unhide HW16]
    clear HW16
    obtain ⟨-, b0, b1, b2, b3⟩ := unhide HY16 W16 (Below.refl _ _)
    obtain ⟨-, a0, a1, a2, a3⟩ := unhide HP W16 (Below.refl _ _)
    rcases unhide HPR with ⟨rfl, rfl, hn0, rfl, hpp⟩ | ⟨rfl, hJn, rfl⟩
    · have hJd : decide (((J : Nat) : Int) > 0) = true := decide_eq_true (by omega)
      have hJd2 : decide (0 < J) = true := decide_eq_true (by omega)
      have HPP := hide hpp
      clear hn0 hpp HPR
      go_wp2_with fail
      refine (vRefSame_any p p _ _ _ _ W16 (unhide HP W16 (Below.refl _ _)).1 (unhide HY16 W16 (Below.refl _ _)).1 (unhide HPP)).mono ?_
      rintro e W17 ⟨rfl, hb17⟩
      rw [(VD.same_iff p p).2 rfl]
      have HT17 := hide (unhide HT16 W17 hb17)
      have HB17 := hide ((unhide HB16).trans (hb17.mono (unhide HB16).size))
      clear hb17 a0 a1 a2 a3 b0 b1 b2 b3
      go_wp2_with fail
      refine (awake_any W17 (unhide HT17)).mono ?_
      rintro e W18 ⟨rfl, hb18⟩
      have HB18 := hide ((unhide HB1).trans (((unhide HB17).trans (hb18.mono (unhide HB17).size)).mono (unhide HB1).size))
      clear hb18
      go_wp2_with fail
      go_ret
      exact ⟨rfl, unhide HB18⟩
    · have HZ : Hid (Calls Tryd.prog 16 #[.agg #[.int .u8 ((kP : Nat) : Int), .int .i64 nP, .string zP, .slice aP mP cP], .agg #[.int .u8 0, .int .i64 0, .string ⟨#[]⟩, .slice none 0 0]] W16 fun e w' => e = .returned (.bool true) ∧ Below W16.heap.size W16 w') := (vRefSame_any (.mk 0 0 [] []) (.mk 0 0 [] []) _ (fun _ => True) _ _ W16 (unhide HP W16 (Below.refl _ _)).1 (at_plain (k := 0) (n := 0) (s := []) (by omega) (by unfold InR; omega) (Nat.zero_le _)) (by decide)).mono fun e w' h => by rw [(VD.same_iff (.mk 0 0 [] []) (.mk 0 0 [] [])).2 rfl] at h; exact h
      have HEND : Hid (∀ W17, Below W16.heap.size W16 W17 → Tab W17 ∧ Below W1.heap.size W1 W17) := fun W17 hb17 => ⟨unhide HT16 W17 hb17, (unhide HB16).trans (hb17.mono (unhide HB16).size)⟩
      by_cases hJ0 : 0 < J
      · have hJd : decide (((J : Nat) : Int) > 0) = true := decide_eq_true (by omega)
        have hJd2 : decide (0 < J) = true := decide_eq_true (by omega)
        have hJe : (((J : Nat) : Int) == ((n : Nat) : Int)) = false := beq_eq_false_iff_ne.2 (by omega)
        have hJe2 : (J == n) = false := beq_eq_false_iff_ne.2 (by omega)
        clear hJ0 hJn HPR
        go_wp2_with fail
        refine (unhide HZ).mono ?_
        rintro e W17 ⟨rfl, hb17⟩
        have HT17 := hide (unhide HEND W17 hb17)
        clear hb17 a0 a1 a2 a3 b0 b1 b2 b3
        go_wp2_with fail
        refine (awake_any W17 (unhide HT17).1).mono ?_
        rintro e W18 ⟨rfl, hb18⟩
        have HB18 := hide ((unhide HB1).trans (((unhide HT17).2.trans (hb18.mono (unhide HT17).2.size)).mono (unhide HB1).size))
        clear hb18
        go_wp2_with fail
        go_ret
        exact ⟨rfl, unhide HB18⟩
      · have hJd : decide (((J : Nat) : Int) > 0) = false := decide_eq_false (by omega)
        have hJd2 : decide (0 < J) = false := decide_eq_false (by omega)
        clear hJ0 hJn HPR
        go_wp2_with fail
        refine (unhide HZ).mono ?_
        rintro e W17 ⟨rfl, hb17⟩
        have HT17 := hide (unhide HEND W17 hb17)
        clear hb17 a0 a1 a2 a3 b0 b1 b2 b3
        go_wp2_with fail
        refine (awake_any W17 (unhide HT17).1).mono ?_
        rintro e W18 ⟨rfl, hb18⟩
        have HB18 := hide ((unhide HB1).trans (((unhide HT17).2.trans (hb18.mono (unhide HT17).2.size)).mono (unhide HB1).size))
        clear hb18
        go_wp2_with fail
        go_ret
        exact ⟨rfl, unhide HB18⟩
end Go.Proofs.YtobgmbfoofkdeaaDoor
