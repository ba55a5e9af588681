/- FragOne of foremanlaw09: its walk. No statement of the seat is proved here. -/
import Derived.Test.YteggocgfaejmbaaBase06
import Derived.Test.YteggocgfaejmbaaBase07
import Derived.Test.YteggocgfaejmbaaBase10
import Derived.Deep.RegionHeld3
namespace Go.Proofs.Yteggocgfaejmbaa
open Go.RowKit

theorem sameF_bytes {l m : List FI} (hl : rightF l = true) (hm : rightF m = true) : decide (bytesF l = bytesF m) = sameF l m := by
  rw [Bool.eq_iff_iff, decide_eq_true_iff, sameF_iff]
  exact bytesF_part hl hm

set_option maxRecDepth 100000 in
set_option maxHeartbeats 4000000 in
theorem oneLaw_any (a : Option Addr) (n c : Nat) (bs : List UInt8) (l : List FI) (a1 : Option Addr) (n1 c1 : Nat) (m : List FI) (a2 : Option Addr) (n2 c2 : Nat) (w : World) (hB : Bytes w (.slice a n c) bs) (hL : FragAt (fun _ => True) w l (.slice a1 n1 c1)) (hM : FragAt (fun _ => True) w m (.slice a2 n2 c2)) :
    Calls Try.prog 5 #[.slice a n c, .slice a1 n1 c1, .slice a2 n2 c2] w fun e w' => e = .returned (.bool true) ∧ Below w.heap.size w w' := by
  obtain ⟨hbl, -⟩ := bytes_len hB
  have HAA : Hid (∀ X, Below w.heap.size w X → Bytes X (.slice a n c) bs ∧ FragAt (fun _ => True) X l (.slice a1 n1 c1) ∧ FragAt (fun _ => True) X m (.slice a2 n2 c2)) := fun X hX => ⟨hB.laterW hX, hL.later hX, hM.later hX⟩
  have HBL := hide hbl
  clear hB hL hM hbl
  by_cases hbig : n > 1500
  · have p1 : ((n : Nat) : Int) > 1500 := by omega
    clear hbig
    go_enter Try.func5, Try.ntmps5
    go_wp2_with fail
    refine (awakeF_any w).mono ?_
    rintro e w1 ⟨rfl, hb1⟩
    have HB1 := hide hb1
    clear hb1
    go_wp2_with fail
    go_ret
    exact ⟨rfl, unhide HB1⟩
  have p1 : ¬ ((n : Nat) : Int) > 1500 := by omega
  have HN : Hid (n ≤ 1500) := by show _ ≤ _; omega
  clear hbig
  go_enter Try.func5, Try.ntmps5
  go_wp2_with fail
  refine (few_any l _ _ w (unhide HAA w (Below.refl _ _)).2.1).mono ?_
  rintro e w1 ⟨⟨f1, rfl, hf1⟩, hb1⟩
  have HB1 := hide hb1
  have HF1 := hide hf1
  clear hb1 hf1
  cases f1 with
  | false =>
    go_wp2_with fail
    refine (awakeF_any w1).mono ?_
    rintro e w2 ⟨rfl, hb2⟩
    have HB2 := hide ((unhide HB1).trans (hb2.mono (unhide HB1).size))
    clear hb2
    go_wp2_with fail
    go_ret
    exact ⟨rfl, unhide HB2⟩
  | true =>
  go_wp2_with fail
  refine (few_any m _ _ w1 (unhide HAA w1 (unhide HB1)).2.2).mono ?_
  rintro e w2 ⟨⟨f2, rfl, hf2⟩, hb2⟩
  have HB2 := hide ((unhide HB1).trans (hb2.mono (unhide HB1).size))
  have HF2 := hide hf2
  clear hb2 hf2 HB1
  cases f2 with
  | false =>
    go_wp2_with fail
    refine (awakeF_any w2).mono ?_
    rintro e w3 ⟨rfl, hb3⟩
    have HB3 := hide ((unhide HB2).trans (hb3.mono (unhide HB2).size))
    clear hb3
    go_wp2_with fail
    go_ret
    exact ⟨rfl, unhide HB3⟩
  | true =>
  go_wp2_with fail
  refine (fTake_any a n c bs w2 (unhide HAA w2 (unhide HB2)).1 (by have := unhide HN; omega)).mono ?_
  rintro e w3 ⟨x, xa, xn, xc, ra, rn, rc, er, rfl, hx, hb3, hor⟩
  have HB3 := hide ((unhide HB2).trans (hb3.mono (unhide HB2).size))
  have HX : Hid (∀ X, Below w3.heap.size w3 X → FragAt (fun k => w2.heap.size ≤ k) X x (.slice xa xn xc)) := fun X hX => hx.later hX
  have HOR := hide hor
  clear hx hb3 hor HB2 HF1 HF2 p1
  go_upto_region 4 with fail
  go_cut [53] (fun t wx => t = .bool false ∧ Below w3.heap.size w3 wx)
  case first =>
    rcases unhide HOR with ⟨rfl, j, hj, hjn, hvr, -⟩ | ⟨rfl, -⟩
    · obtain ⟨sa, sc, hS, q, q'⟩ := slice_to (unhide HAA w3 (unhide HB3)).1 hj
      have hdj : ((n : Nat) : Int) - ((rn : Nat) : Int) = ((j : Nat) : Int) := by omega
      have hwj : IntKind.i64.wrap ((j : Nat) : Int) = ((j : Nat) : Int) := by rw [IntKind.wrap_i64]; have := unhide HN; omega
      have hwd : IntKind.i64.wrap (((n : Nat) : Int) - ((rn : Nat) : Int)) = ((j : Nat) : Int) := by rw [hdj, hwj]
      have hj0 : (0 : Int) ≤ ((j : Nat) : Int) := by omega
      have hj1 : ((j : Nat) : Int) ≤ ((n : Nat) : Int) := by omega
      have HR1 : Hid (∀ X, Below w3.heap.size w3 X → Calls Try.prog 15 #[.slice xa xn xc] X fun e w' => e = .returned (.bool true) ∧ Below X.heap.size X w') := fun X hX => (fRight_any x _ _ X (unhide HX X hX)).mono fun e w' h => by rw [hvr.1] at h; exact h
      have HP1 : Hid (∀ X, Below w3.heap.size w3 X → Calls Try.prog 23 #[.slice none 0 0, .slice xa xn xc] X fun e w' => ∃ pa pn pc, e = .returned (.slice pa pn pc) ∧ Bytes w' (.slice pa pn pc) (bytesF x) ∧ Below X.heap.size X w') := fun X hX => (fPut_any x _ _ none 0 0 [] X (unhide HX X hX) hvr.1 (Own.start X).fresh.1.1 (by simp)).mono fun e w' h => by
        obtain ⟨pa, pn, pc, rfl, hO⟩ := h
        exact ⟨pa, pn, pc, rfl, by simpa using hO.fresh.1.1, hO.bb⟩
      have HSL : Hid (∀ X, Below w3.heap.size w3 X → Bytes X (.slice sa j sc) (bytesF x)) := fun X hX => by rw [← hvr.taken]; exact hS.laterW hX
      clear hS hvr
      go_region_held3 (fun X => Below w3.heap.size w3 X)
        (first | assumption | exact (Below.refl _ _).drew | exact Below.refl _ _)
        (first
          | (go_at_call 15; refine (unhide HR1 _ (by assumption : Below w3.heap.size w3 _)).mono ?_; rintro e w6 ⟨rfl, hb6⟩; have h6 := (by assumption : Below w3.heap.size w3 _).trans (hb6.mono (by assumption : Below w3.heap.size w3 _).size); clear hb6)
          | (go_at_call 23; refine (unhide HP1 _ h6).mono ?_; rintro e w7 ⟨pa, pn, pc, rfl, hP, hb7⟩; have h7 : Below w3.heap.size w3 w7 := h6.trans (hb7.mono h6.size); have HPB := hide hP; clear hb7 hP)
          | (go_at_call 18; refine (wSame_true _ _ (bytesF x) _ (unhide HPB) (unhide HSL _ h7)).mono ?_; rintro e w8 ⟨rfl, rfl⟩))
      all_goals (
        go_wp2_with fail
        go_meet
        exact ⟨rfl, h7⟩)
    · have hne : Nonempty (Later w3) := ⟨⟨w3, Below.refl _ _⟩⟩
      refine wp_region_later (by kernel_rfl) ?_
      repeat (go_big_quiet_step (fail))
      refine wpQuiet_nil ?_
      rintro _ ⟨q, rfl⟩
      have HFIN : Hid (Below w3.heap.size w3 q.1) := q.2
      generalize q.1 = W20 at *
      go_wp2_with fail
      go_meet
      exact ⟨rfl, unhide HFIN⟩
  obtain ⟨rfl, hb4⟩ := hcut
  have HB4 := hide ((unhide HB3).trans (hb4.mono (unhide HB3).size))
  clear hb4 HX HOR HB3
  go_wp2_with fail
  refine (fBytes_any l _ _ _ (unhide HAA _ (unhide HB4)).2.1).mono ?_
  rintro e w5 ⟨pa, pn, pc, e1, r1, rfl, hp1, hb5, ho1⟩
  have HB5 := hide ((unhide HB4).trans (hb5.mono (unhide HB4).size))
  have HP1 := hide hp1
  clear hp1 hb5 HB4
  go_wp2_with fail
  refine (fBytes_any m _ _ _ (unhide HAA _ (unhide HB5)).2.2).mono ?_
  rintro e w6 ⟨qa, qn, qc, e2, r2, rfl, hp2, hb6, ho2⟩
  have HB6 := hide ((unhide HB5).trans (hb6.mono (unhide HB5).size))
  have HP2 := hide hp2
  have HP1' := hide ((unhide HP1).laterW hb6)
  clear hp2 hb6 HB5 HP1
  rcases ho1 with ⟨hr1, rfl, rfl, -⟩ | ⟨-, rfl, -⟩
  case inr =>
    clear ho2
    go_wp2_with fail
    refine (awakeF_any w6).mono ?_
    rintro e w7 ⟨rfl, hb7⟩
    have HB7 := hide ((unhide HB6).trans (hb7.mono (unhide HB6).size))
    clear hb7
    go_wp2_with fail
    go_ret
    exact ⟨rfl, unhide HB7⟩
  rcases ho2 with ⟨hr2, rfl, rfl, -⟩ | ⟨-, rfl, -⟩
  case inr =>
    clear hr1
    go_wp2_with fail
    refine (awakeF_any w6).mono ?_
    rintro e w7 ⟨rfl, hb7⟩
    have HB7 := hide ((unhide HB6).trans (hb7.mono (unhide HB6).size))
    clear hb7
    go_wp2_with fail
    go_ret
    exact ⟨rfl, unhide HB7⟩
  have HEQ := hide (sameF_bytes hr1 hr2)
  clear hr1 hr2
  go_wp2_with fail
  refine (wSame_any _ _ _ _ w6 (unhide HP1') (unhide HP2)).mono ?_
  rintro e w7 ⟨rfl, hw⟩
  rw [hw, unhide HEQ]
  clear hw w7
  obtain ⟨sm, hsm⟩ : ∃ sm, sm = sameF l m := ⟨_, rfl⟩
  rw [← hsm]
  have HSM := hide hsm
  clear hsm
  go_wp2_with fail
  refine (fSame_any l m _ _ _ _ w6 (unhide HAA _ (unhide HB6)).2.1 (unhide HAA _ (unhide HB6)).2.2).mono ?_
  rintro e w7 ⟨rfl, hb7⟩
  rw [← unhide HSM]
  have HB7 := hide ((unhide HB6).trans (hb7.mono (unhide HB6).size))
  clear hb7 HB6 HEQ HSM
  cases sm with
  | false =>
    go_wp2_with fail
    refine (awakeF_any w7).mono ?_
    rintro e w8 ⟨rfl, hb8⟩
    have HB8 := hide ((unhide HB7).trans (hb8.mono (unhide HB7).size))
    clear hb8
    go_wp2_with fail
    go_ret
    exact ⟨rfl, unhide HB8⟩
  | true =>
    go_wp2_with fail
    refine (awakeF_any w7).mono ?_
    rintro e w8 ⟨rfl, hb8⟩
    have HB8 := hide ((unhide HB7).trans (hb8.mono (unhide HB7).size))
    clear hb8
    go_wp2_with fail
    go_ret
    exact ⟨rfl, unhide HB8⟩
end Go.Proofs.Yteggocgfaejmbaa
