/- HeadBack, walked over HeadPure. -/
import Derived.Test.YtoabpjdpdcpdlaaHeadPure
namespace Go.Proofs.Ytoabpjdpdcpdlaa
open Go.RowKit

section
variable (hp : HeadPure) (ha : HeadAwake) (s0 e0 l0 s1 e1 l1 : Nat) (a : Option Addr) (n c : Nat) (b : List UInt8) (w : World)
include ha

set_option maxRecDepth 100000 in
set_option maxHeartbeats 4000000 in
theorem headBack_long (hl : 40 < n) : Calls Try.prog 4 #[.agg #[.int .u64 ((s0 : Nat) : Int), .int .u64 ((e0 : Nat) : Int), .int .u8 ((l0 : Nat) : Int)], .agg #[.int .u64 ((s1 : Nat) : Int), .int .u64 ((e1 : Nat) : Int), .int .u8 ((l1 : Nat) : Int)], .slice a n c] w fun e w' => e = .returned (.bool true) ∧ Below w.heap.size w w' := by
  have HA := hide ha
  have g1 : (n : Int) > 40 := by omega
  clear ha hl
  go_enter Try.func4, Try.ntmps4
  go_wp2_with fail
  refine (unhide HA _).mono ?_
  rintro e w2 ⟨rfl, hb⟩
  have HB : Hid (Below w.heap.size w w2) := (((Below.refl _ w).alloc (Nat.le_refl _) _).alloc (by simp) _).trans (hb.mono (by simp; omega))
  clear hb
  go_wp2_with fail
  go_ret
  exact ⟨rfl, unhide HB⟩

include hp
set_option maxRecDepth 100000 in
set_option maxHeartbeats 8000000 in
theorem headBack_short (hl : ¬ 40 < n) (h : Bytes w (.slice a n c) b) (f0 : (HeadD.mk s0 e0 l0).fits) (f1 : (HeadD.mk s1 e1 l1).fits) : Calls Try.prog 4 #[.agg #[.int .u64 ((s0 : Nat) : Int), .int .u64 ((e0 : Nat) : Int), .int .u8 ((l0 : Nat) : Int)], .agg #[.int .u64 ((s1 : Nat) : Int), .int .u64 ((e1 : Nat) : Int), .int .u8 ((l1 : Nat) : Int)], .slice a n c] w fun e w' => e = .returned (.bool true) ∧ Below w.heap.size w w' := by
  have HP := hide hp
  have HA := hide ha
  have HF0 := hide f0
  have HF1 := hide f1
  have g1 : ¬ (n : Int) > 40 := by omega
  have k0 := (((Kh.start w).addB h).newC #[.int .u64 ((s0 : Nat) : Int), .int .u64 ((e0 : Nat) : Int), .int .u8 ((l0 : Nat) : Int)]).newC #[.int .u64 ((s1 : Nat) : Int), .int .u64 ((e1 : Nat) : Int), .int .u8 ((l1 : Nat) : Int)]
  have esz : (w.alloc (.cells #[.int .u64 ((s0 : Nat) : Int), .int .u64 ((e0 : Nat) : Int), .int .u8 ((l0 : Nat) : Int)] 24)).heap.size = w.heap.size + 1 := by simp
  rw [esz] at k0
  have HK0 := hide k0
  clear hp ha hl h f0 f1 k0 esz
  go_enter Try.func4, Try.ntmps4
  go_upto_region 3 with fail
  generalize (w.alloc _).alloc _ = w0 at *
  obtain ⟨B3, hB3⟩ : ∃ B3, B3 = w.heap.size := ⟨_, rfl⟩
  obtain ⟨B4, hB4⟩ : ∃ B4, B4 = w.heap.size + 1 := ⟨_, rfl⟩
  rw [← hB4] at HK0 ⊢
  rw [← hB3] at HK0 ⊢
  clear hB3 hB4
  obtain ⟨x0, x1, x2⟩ := (unhide HK0).three (g := B3) (List.mem_cons_of_mem _ (List.mem_cons_self ..))
  go_wp2_with fail
  refine ((unhide HP).bytes s0 e0 l0 _ (unhide HF0)).mono ?_
  rintro e w1 ⟨v1, rfl, hv1, hb1⟩
  obtain ⟨va, vc, ev, _⟩ := hv1.form
  subst ev
  have HK1 := hide (((unhide HK0).later hb1).addB hv1)
  clear hb1 hv1 HK0 x0 x1 x2
  obtain ⟨y0, y1, y2⟩ := (unhide HK1).three (g := B4) (List.mem_cons_self ..)
  go_wp2_with fail
  refine ((unhide HP).bytes s1 e1 l1 _ (unhide HF1)).mono ?_
  rintro e w2 ⟨v2, rfl, hv2, hb2⟩
  obtain ⟨ua, uc, ev, _⟩ := hv2.form
  subst ev
  have HK2 := hide (((unhide HK1).later hb2).addB hv2)
  clear hb2 hv2 HK1 y0 y1 y2
  obtain ⟨x0, x1, x2⟩ := (unhide HK2).three (g := B3) (List.mem_cons_of_mem _ (List.mem_cons_self ..))
  obtain ⟨X, hX⟩ : ∃ X, X = hbOf ⟨s0, e0, l0⟩ := ⟨_, rfl⟩
  obtain ⟨Y, hY⟩ : ∃ Y, Y = hbOf ⟨s1, e1, l1⟩ := ⟨_, rfl⟩
  obtain ⟨E, hE⟩ : ∃ E, E = hbErr ⟨s0, e0, l0⟩ := ⟨_, rfl⟩
  obtain ⟨F, hF⟩ : ∃ F, F = hbErr ⟨s1, e1, l1⟩ := ⟨_, rfl⟩
  rw [← hX, ← hY] at HK2
  go_upto_region 5 with fail
  rw [← hX, ← hY, ← hE, ← hF]
  obtain ⟨N, hN⟩ : ∃ N, N = X.length := ⟨_, rfl⟩
  obtain ⟨M, hM⟩ : ∃ M, M = Y.length := ⟨_, rfl⟩
  rw [← hN, ← hM] at HK2 ⊢
  have HX := hide hX
  have HY := hide hY
  have HN := hide hN
  have HM := hide hM
  have HE := hide hE
  have HF := hide hF
  obtain ⟨R, hR⟩ : ∃ R, R = (HeadD.mk s0 e0 l0).right := ⟨_, rfl⟩
  obtain ⟨T, hT⟩ : ∃ T, T = (HeadD.mk s1 e1 l1).right := ⟨_, rfl⟩
  have HR := hide hR
  have HT := hide hT
  have hER : (R = true ∧ E = 0) ∨ (R = false ∧ E = 50) := by
    rw [hE, hR]; unfold hbErr; cases (HeadD.mk s0 e0 l0).right <;> simp
  have hFT : (T = true ∧ F = 0) ∨ (T = false ∧ F = 50) := by
    rw [hF, hT]; unfold hbErr; cases (HeadD.mk s1 e1 l1).right <;> simp
  clear hX hY hN hM hE hF hR hT
  have HER := hide hER
  have HFT := hide hFT
  go_cut [42] (fun z wx => z = .bool false ∧ Kh w wx [(.slice ua M uc, Y), (.slice va N vc, X), (.slice a n c, b)] [(B4, #[.int .u64 ((s1 : Nat) : Int), .int .u64 ((e1 : Nat) : Int), .int .u8 ((l1 : Nat) : Int)]), (B3, #[.int .u64 ((s0 : Nat) : Int), .int .u64 ((e0 : Nat) : Int), .int .u8 ((l0 : Nat) : Int)])])
  case first =>
    rcases hER with ⟨rfl, rfl⟩ | ⟨rfl, rfl⟩ <;> rcases hFT with ⟨rfl, rfl⟩ | ⟨rfl, rfl⟩
    all_goals (
      go_wp2_with fail
      refine ((unhide HP).right s0 e0 l0 _ (unhide HF0)).mono ?_
      rintro e w3 ⟨rfl, hb3⟩
      rw [← unhide HR]
      have HK3 := hide ((unhide HK2).later hb3)
      clear hb3 x0 x1 x2
      obtain ⟨y0, y1, y2⟩ := (unhide HK3).three (g := B4) (List.mem_cons_self ..)
      go_wp2_with fail
      refine ((unhide HP).right s1 e1 l1 _ (unhide HF1)).mono ?_
      rintro e w4 ⟨rfl, hb4⟩
      rw [← unhide HT]
      have HK4 := hide ((unhide HK3).later hb4)
      clear hb4
      go_wp2_with fail
      go_meet
      exact ⟨rfl, unhide HK4⟩)
  obtain ⟨rfl, hK5⟩ := hcut
  have HK5 := hide hK5
  clear hK5 HK2 x0 x1 x2
  generalize wc = w5 at *
  go_wp2_with fail
  refine ((unhide HP).read (.slice a n c) b _ ((unhide HK5).byt (.slice a n c, b) (List.mem_cons_of_mem _ (List.mem_cons_of_mem _ (List.mem_cons_self ..))))).mono ?_
  rintro e w6 ⟨rfl, hb6⟩
  have HK6 := hide ((unhide HK5).later hb6)
  clear hb6 HK5
  obtain ⟨⟨s2, e2, l2⟩, hH⟩ : ∃ H, H = readH b := ⟨_, rfl⟩
  have hHV : (readH b).val = .agg #[.int .u64 ((s2 : Nat) : Int), .int .u64 ((e2 : Nat) : Int), .int .u8 ((l2 : Nat) : Int)] := by rw [← hH]; rfl
  rw [hHV]
  obtain ⟨I, hI⟩ : ∃ I, I = isHead b := ⟨_, rfl⟩
  rw [← hI]
  have HK7 := hide ((unhide HK6).newC #[.int .u64 ((s2 : Nat) : Int), .int .u64 ((e2 : Nat) : Int), .int .u8 ((l2 : Nat) : Int)])
  have HI : Hid (I = true → (HeadD.mk s2 e2 l2).fits ∧ hbErr ⟨s2, e2, l2⟩ = 0 ∧ hbOf ⟨s2, e2, l2⟩ = b) := fun hi => by
    have h1 := hI.symm.trans hi
    rw [hH, readH_is h1]
    obtain ⟨q1, q2, q3⟩ := bytes_read h1
    exact ⟨q1, hbErr_ok q2, (hbOf_ok q2).trans q3⟩
  clear hH hHV hI HK6
  go_upto_if 48 with fail
  have esz : w6.heap.size = w6.heap.size := rfl
  clear esz
  generalize w6.alloc _ = w7 at *
  generalize w6.heap.size = B7 at *
  go_cut [] (fun wx => Kh w wx [(.slice ua M uc, Y), (.slice va N vc, X), (.slice a n c, b)] [(B4, #[.int .u64 ((s1 : Nat) : Int), .int .u64 ((e1 : Nat) : Int), .int .u8 ((l1 : Nat) : Int)]), (B3, #[.int .u64 ((s0 : Nat) : Int), .int .u64 ((e0 : Nat) : Int), .int .u8 ((l0 : Nat) : Int)])])
  case first =>
    have HK7' : Hid (Kh w w7 [(.slice ua M uc, Y), (.slice va N vc, X), (.slice a n c, b)] [(B4, #[.int .u64 ((s1 : Nat) : Int), .int .u64 ((e1 : Nat) : Int), .int .u8 ((l1 : Nat) : Int)]), (B3, #[.int .u64 ((s0 : Nat) : Int), .int .u64 ((e0 : Nat) : Int), .int .u8 ((l0 : Nat) : Int)])]) := ⟨(unhide HK7).bb, (unhide HK7).byt, fun p hp => (unhide HK7).ce p (List.mem_cons_of_mem _ hp)⟩
    cases I with
    | false =>
      go_wp2_with fail
      go_meet
      exact unhide HK7'
    | true =>
      obtain ⟨x0, x1, x2⟩ := (unhide HK7).three (g := B7) (List.mem_cons_self ..)
      obtain ⟨q1, q2, q3⟩ := unhide HI rfl
      have HQ1 := hide q1
      have HQ2 := hide q2
      have HQ3 := hide q3
      clear q1 q2 q3 HI
      go_wp2_with fail
      refine ((unhide HP).bytes s2 e2 l2 _ (unhide HQ1)).mono ?_
      rintro e w8 ⟨v8, rfl, hv8, hb8⟩
      rw [unhide HQ2]
      rw [unhide HQ3] at hv8
      have HV8 := hide hv8
      have HK8 := hide ((unhide HK7').later hb8)
      clear hb8 hv8 HK7 HK7' x0 x1 x2
      go_wp2_with fail
      refine (low_same (.slice a n c) v8 b b _ ((unhide HK8).byt (.slice a n c, b) (List.mem_cons_of_mem _ (List.mem_cons_of_mem _ (List.mem_cons_self ..)))) (unhide HV8)).mono ?_
      rintro e w9 ⟨rfl, rfl⟩
      rw [decide_eq_true (rfl : b = b)]
      go_wp2_with fail
      go_meet
      exact unhide HK8
  have HK8 := hide hcut
  clear hcut HK7 HI
  generalize wc = w8 at *
  rcases unhide HER with ⟨hr, he⟩ | ⟨hr, he⟩
  · subst he
    have hrr := (unhide HR).symm.trans hr
    have HXB : Hid (X = (HeadD.mk s0 e0 l0).bytes) := by show _ = _; rw [unhide HX]; exact hbOf_ok hrr
    have HN0 : Hid (N = 32) := by show _ = _; rw [unhide HN, unhide HXB]; exact HeadD.bytes_len _
    have en := unhide HN0
    subst en
    have HRX : Hid (isHead X = true ∧ (readH X).val = .agg #[.int .u64 ((s0 : Nat) : Int), .int .u64 ((e0 : Nat) : Int), .int .u8 ((l0 : Nat) : Int)]) := by
      obtain ⟨h1, h2⟩ := read_bytes (unhide HF0) hrr
      rw [← unhide HXB] at h1 h2
      exact ⟨h1, by rw [readH_is h1, h2]; rfl⟩
    have HRR := hide hrr
    clear hr hrr
    go_wp2_with fail
    refine ((unhide HP).read (.slice va 32 vc) X _ ((unhide HK8).byt (.slice va 32 vc, X) (List.mem_cons_of_mem _ (List.mem_cons_self ..)))).mono ?_
    rintro e w9 ⟨rfl, hb9⟩
    rw [(unhide HRX).1, (unhide HRX).2]
    have HK9 := hide (((unhide HK8).later hb9).newC #[.int .u64 ((s0 : Nat) : Int), .int .u64 ((e0 : Nat) : Int), .int .u8 ((l0 : Nat) : Int)])
    clear hb9 HK8
    go_upto_region 15 with fail
    generalize w9.alloc _ = w10 at *
    generalize w9.heap.size = B10 at *
    obtain ⟨x0, x1, x2⟩ := (unhide HK9).three (g := B10) (List.mem_cons_self ..)
    obtain ⟨y0, y1, y2⟩ := (unhide HK9).three (g := B3) (List.mem_cons_of_mem _ (List.mem_cons_of_mem _ (List.mem_cons_self ..)))
    obtain ⟨z0, z1, z2⟩ := (unhide HK9).three (g := B4) (List.mem_cons_of_mem _ (List.mem_cons_self ..))
    have lx0 := Later.cell x0
    have lx1 := Later.cell x1
    have lx2 := Later.cell x2
    have ly0 := Later.cell y0
    have ly1 := Later.cell y1
    have ly2 := Later.cell y2
    have lz0 := Later.cell z0
    have lz1 := Later.cell z1
    have lz2 := Later.cell z2
    clear x0 x1 x2 y0 y1 y2 z0 z1 z2
    have hne : Nonempty (Later w10) := ⟨⟨w10, Below.refl _ _⟩⟩
    rcases unhide HFT with ⟨ht, hf⟩ | ⟨ht, hf⟩
    · subst hf
      have HYB : Hid (Y = (HeadD.mk s1 e1 l1).bytes) := by show _ = _; rw [unhide HY]; exact hbOf_ok ((unhide HT).symm.trans ht)
      have HIN : Hid (X = Y → HeadD.mk s0 e0 l0 = HeadD.mk s1 e1 l1) := fun e => by
        rw [unhide HXB, unhide HYB] at e
        exact bytes_inj (unhide HF0) (unhide HF1) (unhide HRR) ((unhide HT).symm.trans ht) e
      clear ht
      have hcase : (s0 ≠ s1) ∨ (s0 = s1 ∧ e0 ≠ e1) ∨ (s0 = s1 ∧ e0 = e1 ∧ l0 ≠ l1) ∨ (s0 = s1 ∧ e0 = e1 ∧ l0 = l1) := by omega
      rcases hcase with h1 | ⟨rfl, h1⟩ | ⟨rfl, rfl, h1⟩ | ⟨rfl, rfl, rfl⟩
      · have HD : Hid (decide (X = Y) = false) := decide_eq_false fun e => h1 (HeadD.mk.inj (unhide HIN e)).1
        have h2 : ¬ (s0 : Int) = (s1 : Int) := by omega
        have h3 : ((s0 : Int) == (s1 : Int)) = false := beq_eq_false_iff_ne.2 h2
        refine wp_region_later (by kernel_rfl) ?_
        repeat (go_big_quiet_step ((rename_i x; first
        | (go_at_call 16; refine (low_same (.slice va 32 vc) (.slice ua M uc) X Y _ (Later.bytes ((unhide HK9).byt (.slice va 32 vc, X) (List.mem_cons_of_mem _ (List.mem_cons_self ..))) x) (Later.bytes ((unhide HK9).byt (.slice ua M uc, Y) (List.mem_cons_self ..)) x)).mono ?_; rintro e w11 ⟨rfl, rfl⟩; exact ⟨by rw [unhide HD], x.same rfl⟩)
        | (go_at_call 9; refine (unhide HA _).mono ?_; rintro e w12 ⟨rfl, hb⟩; exact ⟨rfl, x.then hb⟩))))
        (
        refine wpQuiet_nil ?_
        rintro _ ⟨x, rfl⟩
        have HFIN : Hid (Below w.heap.size w x.1) := (unhide HK9).bb.trans (x.2.mono (unhide HK9).bb.size)
        generalize x.1 = W20 at *
        go_wp2_with fail
        go_ret
        exact ⟨rfl, unhide HFIN⟩)
      · have HD : Hid (decide (X = Y) = false) := decide_eq_false fun e => h1 (HeadD.mk.inj (unhide HIN e)).2.1
        have h2 : ¬ (e0 : Int) = (e1 : Int) := by omega
        have h3 : ((e0 : Int) == (e1 : Int)) = false := beq_eq_false_iff_ne.2 h2
        refine wp_region_later (by kernel_rfl) ?_
        repeat (go_big_quiet_step ((rename_i x; first
        | (go_at_call 16; refine (low_same (.slice va 32 vc) (.slice ua M uc) X Y _ (Later.bytes ((unhide HK9).byt (.slice va 32 vc, X) (List.mem_cons_of_mem _ (List.mem_cons_self ..))) x) (Later.bytes ((unhide HK9).byt (.slice ua M uc, Y) (List.mem_cons_self ..)) x)).mono ?_; rintro e w11 ⟨rfl, rfl⟩; exact ⟨by rw [unhide HD], x.same rfl⟩)
        | (go_at_call 9; refine (unhide HA _).mono ?_; rintro e w12 ⟨rfl, hb⟩; exact ⟨rfl, x.then hb⟩))))
        (
        refine wpQuiet_nil ?_
        rintro _ ⟨x, rfl⟩
        have HFIN : Hid (Below w.heap.size w x.1) := (unhide HK9).bb.trans (x.2.mono (unhide HK9).bb.size)
        generalize x.1 = W20 at *
        go_wp2_with fail
        go_ret
        exact ⟨rfl, unhide HFIN⟩)
      · have HD : Hid (decide (X = Y) = false) := decide_eq_false fun e => h1 (HeadD.mk.inj (unhide HIN e)).2.2
        have h2 : ¬ (l0 : Int) = (l1 : Int) := by omega
        have h3 : ((l0 : Int) == (l1 : Int)) = false := beq_eq_false_iff_ne.2 h2
        refine wp_region_later (by kernel_rfl) ?_
        repeat (go_big_quiet_step ((rename_i x; first
        | (go_at_call 16; refine (low_same (.slice va 32 vc) (.slice ua M uc) X Y _ (Later.bytes ((unhide HK9).byt (.slice va 32 vc, X) (List.mem_cons_of_mem _ (List.mem_cons_self ..))) x) (Later.bytes ((unhide HK9).byt (.slice ua M uc, Y) (List.mem_cons_self ..)) x)).mono ?_; rintro e w11 ⟨rfl, rfl⟩; exact ⟨by rw [unhide HD], x.same rfl⟩)
        | (go_at_call 9; refine (unhide HA _).mono ?_; rintro e w12 ⟨rfl, hb⟩; exact ⟨rfl, x.then hb⟩))))
        (
        refine wpQuiet_nil ?_
        rintro _ ⟨x, rfl⟩
        have HFIN : Hid (Below w.heap.size w x.1) := (unhide HK9).bb.trans (x.2.mono (unhide HK9).bb.size)
        generalize x.1 = W20 at *
        go_wp2_with fail
        go_ret
        exact ⟨rfl, unhide HFIN⟩)
      · have HD : Hid (decide (X = Y) = true) := decide_eq_true ((unhide HXB).trans (unhide HYB).symm)
        refine wp_region_later (by kernel_rfl) ?_
        repeat (go_big_quiet_step ((rename_i x; first
        | (go_at_call 16; refine (low_same (.slice va 32 vc) (.slice ua M uc) X Y _ (Later.bytes ((unhide HK9).byt (.slice va 32 vc, X) (List.mem_cons_of_mem _ (List.mem_cons_self ..))) x) (Later.bytes ((unhide HK9).byt (.slice ua M uc, Y) (List.mem_cons_self ..)) x)).mono ?_; rintro e w11 ⟨rfl, rfl⟩; exact ⟨by rw [unhide HD], x.same rfl⟩)
        | (go_at_call 9; refine (unhide HA _).mono ?_; rintro e w12 ⟨rfl, hb⟩; exact ⟨rfl, x.then hb⟩))))
        (
        refine wpQuiet_nil ?_
        rintro _ ⟨x, rfl⟩
        have HFIN : Hid (Below w.heap.size w x.1) := (unhide HK9).bb.trans (x.2.mono (unhide HK9).bb.size)
        generalize x.1 = W20 at *
        go_wp2_with fail
        go_ret
        exact ⟨rfl, unhide HFIN⟩)
    · subst hf
      refine wp_region_later (by kernel_rfl) ?_
      repeat (go_big_quiet_step ((rename_i x; (go_at_call 9; refine (unhide HA _).mono ?_; rintro e w12 ⟨rfl, hb⟩; exact ⟨rfl, x.then hb⟩))))
      refine wpQuiet_nil ?_
      rintro _ ⟨x, rfl⟩
      have HFIN : Hid (Below w.heap.size w x.1) := (unhide HK9).bb.trans (x.2.mono (unhide HK9).bb.size)
      generalize x.1 = W20 at *
      go_wp2_with fail
      go_ret
      exact ⟨rfl, unhide HFIN⟩
  · subst he
    have HX0 : Hid (X = []) := by show _ = _; rw [unhide HX]; exact hbOf_no ((unhide HR).symm.trans hr)
    have HN0 : Hid (N = 0) := by show _ = _; rw [unhide HN, unhide HX0]; rfl
    have e0 := unhide HN0
    subst e0
    clear hr
    go_wp2_with fail
    refine (unhide HA _).mono ?_
    rintro e w9 ⟨rfl, hb9⟩
    have HB9 : Hid (Below w.heap.size w w9) := ((unhide HK8).later hb9).bb
    clear hb9
    go_wp2_with fail
    go_ret
    exact ⟨rfl, unhide HB9⟩

theorem headBack_any (h : Bytes w (.slice a n c) b) (f0 : (HeadD.mk s0 e0 l0).fits) (f1 : (HeadD.mk s1 e1 l1).fits) : Calls Try.prog 4 #[.agg #[.int .u64 ((s0 : Nat) : Int), .int .u64 ((e0 : Nat) : Int), .int .u8 ((l0 : Nat) : Int)], .agg #[.int .u64 ((s1 : Nat) : Int), .int .u64 ((e1 : Nat) : Int), .int .u8 ((l1 : Nat) : Int)], .slice a n c] w fun e w' => e = .returned (.bool true) ∧ Below w.heap.size w w' := by
  by_cases hl : 40 < n
  · exact headBack_long ha s0 e0 l0 s1 e1 l1 a n c w hl
  · exact headBack_short hp ha s0 e0 l0 s1 e1 l1 a n c b w hl h f0 f1
end
end Go.Proofs.Ytoabpjdpdcpdlaa
