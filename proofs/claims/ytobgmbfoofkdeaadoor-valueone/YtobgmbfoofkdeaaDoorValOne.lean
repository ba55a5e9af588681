/- ValueOne of foremanlaw08: its walk. No statement of the seat is proved here. -/
import Derived.Test.YtobgmbfoofkdeaaDoorBase11
import Derived.Test.YtobgmbfoofkdeaaDoorBase10
import Derived.Test.YtobgmbfoofkdeaaDoorBase09
import Derived.Test.YtobgmbfoofkdeaaDoorBase07
import Derived.Deep.RegionHeld3
namespace Go.Proofs.YtobgmbfoofkdeaaDoor
open Go.RowKit

/-- What Take tells, in one form. -/
theorem took_form {w : World} {n : Nat} {bs : List UInt8} {e : Ending} {W : World} (h : TookVM w n bs e W) (hl : bs.length = n) : ∃ (x : VD) (K m c : Nat) (N : Int) (z : ByteArray) (a : Option Addr) (ra : Option Addr) (rn rc : Nat) (er : Int), e = .returned (.tuple #[.agg #[.int .u8 ((K : Nat) : Int), .int .i64 N, .string z, .slice a m c], .slice ra rn rc, .int .i64 er]) ∧ x.At (fun k => w.heap.size ≤ k) W (.agg #[.int .u8 ((K : Nat) : Int), .int .i64 N, .string z, .slice a m c]) ∧ ((er = 0 ∧ ∃ j, j ≤ n ∧ rn + j = n ∧ VReads bs 6 x j ∧ Bytes W (.slice ra rn rc) (bs.drop j)) ∨ (er = 30 ∧ NoVal bs 6 ∧ x = .mk 0 0 [] [] ∧ rn = 0)) := by
  rcases h with ⟨v, j, u, ra, rc, hv, hA, hB, rfl⟩ | ⟨hN, rfl⟩
  · obtain ⟨K, m, c, N, z, a, rfl⟩ := hA.form
    have hj : j ≤ n := by rw [hv.len, ← hl]; have := congrArg List.length hv.eq; simp only [List.length_append] at this; omega
    exact ⟨v, K, m, c, N, z, a, ra, n - j, rc, 0, rfl, hA, .inl ⟨rfl, j, hj, by omega, hv, hB⟩⟩
  · exact ⟨.mk 0 0 [] [], 0, 0, 0, 0, ⟨#[]⟩, none, none, 0, 0, 30, rfl, at_plain (k := 0) (n := 0) (s := []) (by omega) (by unfold InR; omega) (Nat.zero_le _), .inr ⟨rfl, hN, rfl, rfl⟩⟩

/-- What Bytes tells, in one form. -/
theorem bytes_form {v : VD} {w : World} {e : Ending} {w' : World} (h : (v.right = true ∧ ∃ r, e = .returned (.tuple #[r, .int .i64 0]) ∧ Own w r v.bytes w') ∨ (v.right = false ∧ e = .returned (.tuple #[.slice none 0 0, .int .i64 2]) ∧ Below w.heap.size w w')) : ∃ (pa : Option Addr) (pn pc : Nat) (er : Int) (rs : List UInt8), e = .returned (.tuple #[.slice pa pn pc, .int .i64 er]) ∧ Bytes w' (.slice pa pn pc) rs ∧ Below w.heap.size w w' ∧ ((v.right = true ∧ er = 0 ∧ rs = v.bytes) ∨ (v.right = false ∧ er = 2 ∧ rs = [] ∧ pn = 0)) := by
  rcases h with ⟨hr, r, rfl, hO⟩ | ⟨hr, rfl, hb⟩
  · obtain ⟨pa, pc, rfl, _⟩ := hO.fresh.1.1.form
    exact ⟨pa, _, pc, 0, v.bytes, rfl, hO.fresh.1.1, hO.bb, .inl ⟨hr, rfl, rfl⟩⟩
  · exact ⟨none, 0, 0, 2, [], rfl, (Own.start w').fresh.1.1, hb, .inr ⟨hr, rfl, rfl, rfl⟩⟩

set_option maxRecDepth 100000 in
set_option maxHeartbeats 2000000 in
theorem oneLaw_any (a : Option Addr) (n c : Nat) (bs : List UInt8) (v v2 : VD) (u u2 : Value) (w : World) (h : Bytes w (.slice a n c) bs) (hA : v.At (fun _ => True) w u) (hA2 : v2.At (fun _ => True) w u2) (hT : Tab w) : Calls Tryd.prog 5 #[.slice a n c, u, u2] w fun e w' => e = .returned (.bool true) ∧ Below w.heap.size w w' := by
  have hbl : bs.length = n := (bytes_len h).1
  obtain ⟨K, m, cc, N, z, l, rfl⟩ := hA.form
  obtain ⟨K2, m2, cc2, N2, z2, l2, rfl⟩ := hA2.form
  obtain ⟨W1, hW1⟩ : ∃ W1, W1 = (w.alloc (.cells #[.int .u8 ((K : Nat) : Int), .int .i64 N, .string z, .slice l m cc] 24)).alloc (.cells #[.int .u8 ((K2 : Nat) : Int), .int .i64 N2, .string z2, .slice l2 m2 cc2] 24) := ⟨_, rfl⟩
  have hb1 : Below w.heap.size w W1 := by rw [hW1]; exact ((Below.refl _ w).alloc (Nat.le_refl _) _).alloc (by rw [World.size_alloc]; omega) _
  have hr1 : W1.heap[w.heap.size]? = some (.cells #[.int .u8 ((K : Nat) : Int), .int .i64 N, .string z, .slice l m cc] 24 (0, 0)) := by rw [hW1]; exact (((Below.refl _ _).alloc (Nat.le_refl _) _).block _ (lt_rowV (heap_alloc_new w _))).trans (heap_alloc_new w _)
  have hs1 : W1.heap[w.heap.size + 1]? = some (.cells #[.int .u8 ((K2 : Nat) : Int), .int .i64 N2, .string z2, .slice l2 m2 cc2] 24 (0, 0)) := by rw [hW1]; have := heap_alloc_new (w.alloc (.cells #[.int .u8 ((K : Nat) : Int), .int .i64 N, .string z, .slice l m cc] 24)) (.cells #[.int .u8 ((K2 : Nat) : Int), .int .i64 N2, .string z2, .slice l2 m2 cc2] 24); rwa [World.size_alloc] at this
  have HAA : Hid (∀ X, Below W1.heap.size W1 X → v.At (fun _ => True) X (.agg #[.int .u8 ((K : Nat) : Int), .int .i64 N, .string z, .slice l m cc]) ∧ v2.At (fun _ => True) X (.agg #[.int .u8 ((K2 : Nat) : Int), .int .i64 N2, .string z2, .slice l2 m2 cc2]) ∧ Bytes X (.slice a n c) bs ∧ Tab X) := fun X hX => ⟨(hA.later hb1).later hX, (hA2.later hb1).later hX, (h.laterW hb1).laterW hX, (hT.later hb1).later hX⟩
  have HKS : Hid (∀ X, Below W1.heap.size W1 X → (X.cell? ⟨w.heap.size, 0, none⟩ = some (.int .u8 ((K : Nat) : Int)) ∧ X.cell? ⟨w.heap.size, 1, none⟩ = some (.int .i64 N) ∧ X.cell? ⟨w.heap.size, 2, none⟩ = some (.string z) ∧ X.cell? ⟨w.heap.size, 3, none⟩ = some (.slice l m cc)) ∧ (X.cell? ⟨w.heap.size + 1, 0, none⟩ = some (.int .u8 ((K2 : Nat) : Int)) ∧ X.cell? ⟨w.heap.size + 1, 1, none⟩ = some (.int .i64 N2) ∧ X.cell? ⟨w.heap.size + 1, 2, none⟩ = some (.string z2) ∧ X.cell? ⟨w.heap.size + 1, 3, none⟩ = some (.slice l2 m2 cc2))) := fun X hX => ⟨(cells4 ((hX.block _ (lt_rowV hr1)).trans hr1)).1, (cells4 ((hX.block _ (lt_rowV hs1)).trans hs1)).1⟩
  have HB1 := hide hb1
  have HW1 := hide hW1
  have HBL := hide hbl
  clear hA hA2 hT h hW1 hb1 hr1 hs1 hbl
  go_enter Tryd.func5, Tryd.ntmps5
  go_upto_region 1 with fail
  rw [← unhide HW1]
  clear HW1
  obtain ⟨⟨a0, a1, a2, a3⟩, b0, b1, b2, b3⟩ := unhide HKS W1 (Below.refl _ _)
  go_cut [27] (fun t wx => (∃ r : Bool, t = .bool r ∧ (r = false → n ≤ 1500 ∧ (v.deep ≤ 20 ∧ v.parts ≤ 600) ∧ (v2.deep ≤ 20 ∧ v2.parts ≤ 600))) ∧ Below W1.heap.size W1 wx)
  case first =>
    by_cases hn : ((n : Nat) : Int) > 1500
    · go_wp2_with fail
      go_meet
      exact ⟨⟨true, rfl, fun h => by cases h⟩, Below.refl _ _⟩
    · have HN : Hid (n ≤ 1500) := by show _ ≤ _; omega
      go_wp2_with fail
      refine (vFewTop_any v _ _ _ (unhide HAA W1 (Below.refl _ _)).1).mono ?_
      rintro e W2 ⟨⟨q, rfl, hq⟩, hb2⟩
      have HQ := hide hq
      have HB2 := hide hb2
      clear hq hb2 a0 a1 a2 a3 b0 b1 b2 b3
      obtain ⟨⟨a0, a1, a2, a3⟩, b0, b1, b2, b3⟩ := unhide HKS W2 (unhide HB2)
      cases q with
      | false =>
        go_wp2_with fail
        go_meet
        exact ⟨⟨true, rfl, fun h => by cases h⟩, unhide HB2⟩
      | true =>
        go_wp2_with fail
        refine (vFewTop_any v2 _ _ _ (unhide HAA W2 (unhide HB2)).2.1).mono ?_
        rintro e W3 ⟨⟨q, rfl, hq⟩, hb3⟩
        have HQ2 := hide hq
        have HB3 := hide ((unhide HB2).trans (hb3.mono (unhide HB2).size))
        clear hq hb3 a0 a1 a2 a3 b0 b1 b2 b3
        cases q with
        | false =>
          go_wp2_with fail
          go_meet
          exact ⟨⟨true, rfl, fun h => by cases h⟩, unhide HB3⟩
        | true =>
          go_wp2_with fail
          go_meet
          exact ⟨⟨false, rfl, fun _ => ⟨unhide HN, unhide HQ trivial, unhide HQ2 trivial⟩⟩, unhide HB3⟩
  obtain ⟨⟨r, rfl, hr⟩, hb2⟩ := hcut
  have HR := hide hr
  have HB2 := hide hb2
  clear hr hb2 a0 a1 a2 a3 b0 b1 b2 b3
  cases r with
  | true =>
    go_wp2_with fail
    refine (awake_any wc (unhide HAA wc (unhide HB2)).2.2.2).mono ?_
    rintro e W3 ⟨rfl, hb3⟩
    have HB3 := hide ((unhide HB1).trans (((unhide HB2).trans (hb3.mono (unhide HB2).size)).mono (unhide HB1).size))
    clear hb3
    go_wp2_with fail
    go_ret
    exact ⟨rfl, unhide HB3⟩
  | false =>
    obtain ⟨hn, hv, hv2⟩ := unhide HR rfl
    have HN := hide hn
    have HV : Hid (v.deep ≤ 1000 ∧ v.parts ≤ 1000000) := ⟨by omega, by omega⟩
    have HV2 : Hid (v2.deep ≤ 1000 ∧ v2.parts ≤ 1000000) := ⟨by omega, by omega⟩
    clear hn hv hv2 HR
    obtain ⟨⟨a0, a1, a2, a3⟩, b0, b1, b2, b3⟩ := unhide HKS wc (unhide HB2)
    go_wp2_with fail
    refine (vTake_any a n c bs wc (unhide HAA wc (unhide HB2)).2.2.1 (by have := unhide HN; omega)).mono ?_
    rintro e W3 ⟨hTK, hb3⟩
    obtain ⟨x, kX, mX, cX, nX, zX, aX, ra, rn, rc, er, rfl, hx, hor⟩ := took_form hTK (unhide HBL)
    obtain ⟨W4, hW4⟩ : ∃ W4, W4 = W3.alloc (.cells #[.int .u8 ((kX : Nat) : Int), .int .i64 nX, .string zX, .slice aX mX cX] 24) := ⟨_, rfl⟩
    have hb34 : Below W3.heap.size W3 W4 := by rw [hW4]; exact (Below.refl _ _).alloc (Nat.le_refl _) _
    have hg4 : W4.heap[W3.heap.size]? = some (.cells #[.int .u8 ((kX : Nat) : Int), .int .i64 nX, .string zX, .slice aX mX cX] 24 (0, 0)) := by rw [hW4]; exact heap_alloc_new _ _
    have hb13 := (unhide HB2).trans (hb3.mono (unhide HB2).size)
    have HB4 : Hid (Below W1.heap.size W1 W4) := hb13.trans (hb34.mono hb13.size)
    have HX : Hid (∀ X, Below W4.heap.size W4 X → x.At (fun k => wc.heap.size ≤ k) X (.agg #[.int .u8 ((kX : Nat) : Int), .int .i64 nX, .string zX, .slice aX mX cX]) ∧ X.cell? ⟨W3.heap.size, 0, none⟩ = some (.int .u8 ((kX : Nat) : Int)) ∧ X.cell? ⟨W3.heap.size, 1, none⟩ = some (.int .i64 nX) ∧ X.cell? ⟨W3.heap.size, 2, none⟩ = some (.string zX) ∧ X.cell? ⟨W3.heap.size, 3, none⟩ = some (.slice aX mX cX)) := fun X hX => ⟨(hx.later hb34).later hX, (cells4 ((hX.block _ (lt_rowV hg4)).trans hg4)).1⟩
    have HOR := hide hor
    have HW4 := hide hW4
    clear hTK hb3 a0 a1 a2 a3 b0 b1 b2 b3 hx hor hb34 hg4 hb13 hW4
    go_upto_region 4 with fail
    rw [← unhide HW4]
    clear HW4
    obtain ⟨-, a0, a1, a2, a3⟩ := unhide HX W4 (Below.refl _ _)
    go_cut [54] (fun t wx => t = .bool false ∧ Below W1.heap.size W1 wx)
    case first =>
      rcases unhide HOR with ⟨rfl, j, hj, hjn, hvr, -⟩ | ⟨rfl, -⟩
      · obtain ⟨sa, sc, hS, q, q'⟩ := slice_to (unhide HAA W4 (unhide HB4)).2.2.1 hj
        have hdj : ((n : Nat) : Int) - ((rn : Nat) : Int) = ((j : Nat) : Int) := by omega
        have hwj : IntKind.i64.wrap ((j : Nat) : Int) = ((j : Nat) : Int) := by rw [IntKind.wrap_i64]; have := unhide HN; omega
        have hwd : IntKind.i64.wrap (((n : Nat) : Int) - ((rn : Nat) : Int)) = ((j : Nat) : Int) := by rw [hdj, hwj]
        have hj0 : (0 : Int) ≤ ((j : Nat) : Int) := by omega
        have hj1 : ((j : Nat) : Int) ≤ ((n : Nat) : Int) := by omega
        have HR1 : Hid (∀ X, Below W4.heap.size W4 X → Calls Tryd.prog 12 #[.agg #[.int .u8 ((kX : Nat) : Int), .int .i64 nX, .string zX, .slice aX mX cX]] X fun e w' => e = .returned (.bool true) ∧ Below X.heap.size X w') := fun X hX => (right_any x _ _ X (unhide HX X hX).1).mono fun e w' h => by rw [hvr.right] at h; exact h
        have HP1 : Hid (∀ X, Below W4.heap.size W4 X → Calls Tryd.prog 24 #[.slice none 0 0, .agg #[.int .u8 ((kX : Nat) : Int), .int .i64 nX, .string zX, .slice aX mX cX]] X fun e w' => ∃ pa pn pc, e = .returned (.slice pa pn pc) ∧ Bytes w' (.slice pa pn pc) x.bytes ∧ Below X.heap.size X w') := fun X hX => (vPut_any x _ _ none 0 0 [] X (unhide HX X hX).1 hvr.right (Own.start X).fresh.1.1 (by simp)).mono fun e w' h => by
          obtain ⟨r, rfl, hO⟩ := h
          obtain ⟨pa, pc, rfl, _⟩ := hO.fresh.1.1.form
          exact ⟨pa, _, pc, rfl, by simpa using hO.fresh.1.1, hO.bb⟩
        have HSL : Hid (∀ X, Below W4.heap.size W4 X → Bytes X (.slice sa j sc) x.bytes) := fun X hX => by rw [← hvr.taken]; exact hS.laterW hX
        clear hS hvr
        have HK4 : Hid (∀ X, Below W4.heap.size W4 X → X.cell? ⟨W3.heap.size, 0, none⟩ = some (.int .u8 ((kX : Nat) : Int)) ∧ X.cell? ⟨W3.heap.size, 1, none⟩ = some (.int .i64 nX) ∧ X.cell? ⟨W3.heap.size, 2, none⟩ = some (.string zX) ∧ X.cell? ⟨W3.heap.size, 3, none⟩ = some (.slice aX mX cX) ∧ Below W4.heap.size W4 X) := fun X hX => ⟨(unhide HX X hX).2.1, (unhide HX X hX).2.2.1, (unhide HX X hX).2.2.2.1, (unhide HX X hX).2.2.2.2, hX⟩
        go_region_held3 (fun X => X.cell? ⟨W3.heap.size, 0, none⟩ = some (.int .u8 ((kX : Nat) : Int)) ∧ X.cell? ⟨W3.heap.size, 1, none⟩ = some (.int .i64 nX) ∧ X.cell? ⟨W3.heap.size, 2, none⟩ = some (.string zX) ∧ X.cell? ⟨W3.heap.size, 3, none⟩ = some (.slice aX mX cX) ∧ Below W4.heap.size W4 X)
          ((refine unhide HK4 _ ?_; first | assumption | exact (Below.refl _ _).drew))
          (first
            | (go_at_call 12; refine (unhide HR1 _ (by assumption : _ ∧ _ ∧ _ ∧ _ ∧ Below W4.heap.size W4 _).2.2.2.2).mono ?_; rintro e w6 ⟨rfl, hb6⟩; have h6 := (by assumption : _ ∧ _ ∧ _ ∧ _ ∧ Below W4.heap.size W4 _).2.2.2.2.trans (hb6.mono (by assumption : _ ∧ _ ∧ _ ∧ _ ∧ Below W4.heap.size W4 _).2.2.2.2.size); clear hb6)
            | (go_at_call 24; refine (unhide HP1 _ h6).mono ?_; rintro e w7 ⟨pa, pn, pc, rfl, hP, hb7⟩; have h7 : Below W4.heap.size W4 w7 := h6.trans (hb7.mono h6.size); have HPB := hide hP; clear hb7 hP)
            | (go_at_call 17; refine (wSame_true _ _ x.bytes _ (unhide HPB) (unhide HSL _ h7)).mono ?_; rintro e w8 ⟨rfl, rfl⟩))
        all_goals (
          go_wp2_with fail
          go_meet
          exact ⟨rfl, (unhide HB4).trans (h7.mono (unhide HB4).size)⟩)
      · have hne : Nonempty (Later W4) := ⟨⟨W4, Below.refl _ _⟩⟩
        refine wp_region_later (by kernel_rfl) ?_
        repeat (go_big_quiet_step (fail))
        refine wpQuiet_nil ?_
        rintro _ ⟨q, rfl⟩
        have HFIN : Hid (Below W4.heap.size W4 q.1) := q.2
        generalize q.1 = W20 at *
        go_wp2_with fail
        go_meet
        exact ⟨rfl, (unhide HB4).trans ((unhide HFIN).mono (unhide HB4).size)⟩
    obtain ⟨rfl, hb4⟩ := hcut
    have HB5 := hide hb4
    clear hb4 a0 a1 a2 a3 HX HOR HB4
    obtain ⟨⟨a0, a1, a2, a3⟩, b0, b1, b2, b3⟩ := unhide HKS _ (unhide HB5)
    go_wp2_with fail
    refine (vBytes_any v _ _ _ (unhide HAA _ (unhide HB5)).1).mono ?_
    rintro e W6 hB6
    obtain ⟨pa, pn, pc, e1, r1, rfl, hp1, hb6, ho1⟩ := bytes_form hB6
    have HB6 := hide ((unhide HB5).trans (hb6.mono (unhide HB5).size))
    have HP1 := hide hp1
    have HO1 := hide ho1
    clear hB6 hp1 hb6 ho1 a0 a1 a2 a3 b0 b1 b2 b3 HB5
    obtain ⟨⟨a0, a1, a2, a3⟩, b0, b1, b2, b3⟩ := unhide HKS _ (unhide HB6)
    go_wp2_with fail
    refine (vBytes_any v2 _ _ _ (unhide HAA _ (unhide HB6)).2.1).mono ?_
    rintro e W7 hB7
    obtain ⟨qa, qn, qc, e2, r2, rfl, hp2, hb7, ho2⟩ := bytes_form hB7
    have HB7 := hide ((unhide HB6).trans (hb7.mono (unhide HB6).size))
    have HP2 := hide hp2
    have HP1' := hide ((unhide HP1).laterW hb7)
    have HO2 := hide ho2
    clear hB7 hp2 hb7 ho2 a0 a1 a2 a3 b0 b1 b2 b3 HB6 HP1
    obtain ⟨⟨a0, a1, a2, a3⟩, b0, b1, b2, b3⟩ := unhide HKS _ (unhide HB7)
    by_cases hrr : v.right = true ∧ v2.right = true
    case neg =>
      have HNO : Hid (¬ (e1 = 0 ∧ e2 = 0)) := by
        rintro ⟨rfl, rfl⟩
        rcases unhide HO1 with ⟨h1, _⟩ | ⟨_, h, _⟩
        · rcases unhide HO2 with ⟨h2, _⟩ | ⟨_, h, _⟩
          · exact hrr ⟨h1, h2⟩
          · cases h
        · cases h
      clear hrr HO1 HO2
      go_upto_region 8 with fail
      go_cut [70] (fun t wx => t = .bool true ∧ wx = W7)
      case first =>
        by_cases g1 : e1 = 0
        · have g2 : ¬ e2 = 0 := fun h => unhide HNO ⟨g1, h⟩
          have g1b : (e1 == 0) = true := beq_iff_eq.2 g1
          have g2b : (e2 == 0) = false := beq_eq_false_iff_ne.2 g2
          go_wp2_with fail
          go_meet
          exact ⟨by rw [show (e2 != 0) = true by simp [g2]], rfl⟩
        · have g1b : (e1 == 0) = false := beq_eq_false_iff_ne.2 g1
          go_wp2_with fail
          go_meet
          exact ⟨rfl, rfl⟩
      obtain ⟨rfl, hw⟩ := hcut
      rw [hw]
      clear hw
      clear HNO a0 a1 a2 a3 b0 b1 b2 b3
      go_wp2_with fail
      refine (awake_any _ (unhide HAA _ (unhide HB7)).2.2.2).mono ?_
      rintro e W8 ⟨rfl, hb8⟩
      have HB8 := hide ((unhide HB1).trans (((unhide HB7).trans (hb8.mono (unhide HB7).size)).mono (unhide HB1).size))
      clear hb8
      go_wp2_with fail
      go_ret
      exact ⟨rfl, unhide HB8⟩
    obtain ⟨hr1, hr2⟩ := hrr
    obtain ⟨rfl, rfl⟩ : e1 = 0 ∧ r1 = v.bytes := by
      rcases unhide HO1 with ⟨_, h, h'⟩ | ⟨h, _⟩
      · exact ⟨h, h'⟩
      · rw [h] at hr1; cases hr1
    obtain ⟨rfl, rfl⟩ : e2 = 0 ∧ r2 = v2.bytes := by
      rcases unhide HO2 with ⟨_, h, h'⟩ | ⟨h, _⟩
      · exact ⟨h, h'⟩
      · rw [h] at hr2; cases hr2
    have HRR : Hid (v.right = true ∧ v2.right = true) := ⟨hr1, hr2⟩
    clear hr1 hr2 HO1 HO2
    go_upto_region 10 with fail
    go_wp2_with fail
    refine (same_any v v2 _ _ _ _ W7 (unhide HAA W7 (unhide HB7)).1 (unhide HAA W7 (unhide HB7)).2.1 (unhide HV).2 (unhide HV).1).mono ?_
    rintro e W8 ⟨rfl, hb8⟩
    obtain ⟨sm, hsm⟩ : ∃ sm, sm = v.same v2 := ⟨_, rfl⟩
    rw [← hsm]
    have HB8 : Hid (Below W1.heap.size W1 W8) := (unhide HB7).trans (hb8.mono (unhide HB7).size)
    obtain ⟨zv, hzv⟩ : ∃ zv : ByteArray, zv = ⟨v.shown.toArray⟩ := ⟨_, rfl⟩
    obtain ⟨zw, hzw⟩ : ∃ zw : ByteArray, zw = ⟨v2.shown.toArray⟩ := ⟨_, rfl⟩
    have hsv : sm = true ↔ v = v2 := by rw [hsm]; exact VD.same_iff v v2
    have hd1 : decide (v.bytes = v2.bytes) = sm := by rw [Bool.eq_iff_iff, decide_eq_true_iff, hsv]; exact bytes_part (unhide HRR).1 (unhide HRR).2
    have hz1 : zv = zw ↔ sm = true := by
      rw [hsv, hzv, hzw]
      constructor
      · intro h
        have h2 : v.shown = v2.shown := by have := congrArg (fun z : ByteArray => z.toList) h; simpa [ByteArray.toList_eq] using this
        exact (VD.shown_part v v2 [] [] (right_parts (unhide HRR).1).1 (right_parts (unhide HRR).2).1 (.inl rfl) (.inl rfl) (by rw [h2])).1
      · rintro rfl; rfl
    have hz2 : zv.toList = zw.toList ↔ sm = true := by
      rw [← hz1, hzv, hzw]
      constructor
      · intro h
        rw [ByteArray.toList_eq, ByteArray.toList_eq] at h
        have h2 : v.shown = v2.shown := by simpa using h
        rw [h2]
      · intro h; rw [h]
    have HZ2 := hide hz2
    clear hz2
    have HC1 : Hid (∀ X, Below W8.heap.size W8 X → Calls Tryd.prog 17 #[.slice pa pn pc, .slice qa qn qc] X fun e w' => e = .returned (.bool sm) ∧ Below X.heap.size X w') := fun X hX => (wSame_any _ _ v.bytes v2.bytes X (((unhide HP1').laterW hb8).laterW hX) (((unhide HP2).laterW hb8).laterW hX)).mono fun e w' h => by
      obtain ⟨rfl, rfl⟩ := h
      exact ⟨by rw [hd1], Below.refl _ _⟩
    have HC2 : Hid (∀ X, Below W8.heap.size W8 X → Calls Tryd.prog 19 #[.agg #[.int .u8 ((K : Nat) : Int), .int .i64 N, .string z, .slice l m cc]] X fun e w' => e = .returned (.string zv) ∧ Below X.heap.size X w') := fun X hX => by
      rw [hzv]
      have h := unhide HAA X ((unhide HB8).trans (hX.mono (unhide HB8).size))
      exact vShow_any v _ _ X h.1 (unhide HRR).1 h.2.2.2
    have HC3 : Hid (∀ X, Below W8.heap.size W8 X → Calls Tryd.prog 19 #[.agg #[.int .u8 ((K2 : Nat) : Int), .int .i64 N2, .string z2, .slice l2 m2 cc2]] X fun e w' => e = .returned (.string zw) ∧ Below X.heap.size X w') := fun X hX => by
      rw [hzw]
      have h := unhide HAA X ((unhide HB8).trans (hX.mono (unhide HB8).size))
      exact vShow_any v2 _ _ X h.2.1 (unhide HRR).2 h.2.2.2
    have HC4 : Hid (∀ X, Below W8.heap.size W8 X → Calls Tryd.prog 9 #[] X fun e w' => e = .returned (.bool true) ∧ Below X.heap.size X w') := fun X hX => awake_any X (unhide HAA X ((unhide HB8).trans (hX.mono (unhide HB8).size))).2.2.2
    have HZ1 := hide hz1
    have HKS8 : Hid (∀ X, Below W8.heap.size W8 X → _) := fun X hX => unhide HKS X ((unhide HB8).trans (hX.mono (unhide HB8).size))
    clear hb8 hzv hzw hsv hd1 hz1 hsm HP1' HP2 HAA HKS HV HV2 a0 a1 a2 a3 b0 b1 b2 b3
    obtain ⟨⟨a0, a1, a2, a3⟩, b0, b1, b2, b3⟩ := unhide HKS8 W8 (Below.refl _ _)
    go_upto_region 11 with fail
    have hne : Nonempty (Later W8) := ⟨⟨W8, Below.refl _ _⟩⟩
    have l1 := Later.cell a0
    have l2 := Later.cell a1
    have l3 := Later.cell a2
    have l4 := Later.cell a3
    have m1 := Later.cell b0
    have m2 := Later.cell b1
    have m3 := Later.cell b2
    have m4 := Later.cell b3
    go_cut [6] (fun t wx => t = .bool true ∧ Below W8.heap.size W8 wx)
    case first =>
      cases sm with
      | true =>
        obtain rfl := (unhide HZ1).2 rfl
        refine wp_region_later (by kernel_rfl) ?_
        repeat (go_big_quiet_step ((rename_i q; first
          | (have _t := q; go_at_call 17; refine (unhide HC1 _ q.2).mono ?_; rintro e w11 ⟨rfl, hb11⟩; exact ⟨rfl, q.then hb11⟩)
          | (go_at_call 19; refine (unhide HC2 _ q.2).mono ?_; rintro e w11 ⟨rfl, hb11⟩; exact ⟨rfl, q.then hb11⟩)
          | (go_at_call 19; refine (unhide HC3 _ q.2).mono ?_; rintro e w11 ⟨rfl, hb11⟩; exact ⟨rfl, q.then hb11⟩)
          | (go_at_call 9; refine (unhide HC4 _ q.2).mono ?_; rintro e w11 ⟨rfl, hb11⟩; exact ⟨rfl, q.then hb11⟩))))
        refine wpQuiet_nil ?_
        rintro _ ⟨q, rfl⟩
        have HFIN : Hid (Below W8.heap.size W8 q.1) := q.2
        generalize q.1 = W20 at *
        go_wp2_with fail
        go_meet
        exact ⟨rfl, unhide HFIN⟩
      | false =>
        have hzn : ¬ zv.toList = zw.toList := fun h => by cases (unhide HZ2).1 h
        have hzb : (zv.toList == zw.toList) = false := beq_eq_false_iff_ne.2 hzn
        refine wp_region_later (by kernel_rfl) ?_
        repeat (go_big_quiet_step ((rename_i q; first
          | (have _t := q; go_at_call 17; refine (unhide HC1 _ q.2).mono ?_; rintro e w11 ⟨rfl, hb11⟩; exact ⟨rfl, q.then hb11⟩)
          | (go_at_call 19; refine (unhide HC2 _ q.2).mono ?_; rintro e w11 ⟨rfl, hb11⟩; exact ⟨rfl, q.then hb11⟩)
          | (go_at_call 19; refine (unhide HC3 _ q.2).mono ?_; rintro e w11 ⟨rfl, hb11⟩; exact ⟨rfl, q.then hb11⟩)
          | (go_at_call 9; refine (unhide HC4 _ q.2).mono ?_; rintro e w11 ⟨rfl, hb11⟩; exact ⟨rfl, q.then hb11⟩))))
        refine wpQuiet_nil ?_
        rintro _ ⟨q, rfl⟩
        have HFIN : Hid (Below W8.heap.size W8 q.1) := q.2
        generalize q.1 = W20 at *
        go_wp2_with fail
        go_meet
        exact ⟨rfl, unhide HFIN⟩
    obtain ⟨rfl, hb9⟩ := hcut
    have HB9 := hide ((unhide HB1).trans (((unhide HB8).trans (hb9.mono (unhide HB8).size)).mono (unhide HB1).size))
    clear hb9 l1 l2 l3 l4 m1 m2 m3 m4 a0 a1 a2 a3 b0 b1 b2 b3 hne
    go_wp2_with fail
    go_ret
    exact ⟨rfl, unhide HB9⟩
end Go.Proofs.YtobgmbfoofkdeaaDoor
