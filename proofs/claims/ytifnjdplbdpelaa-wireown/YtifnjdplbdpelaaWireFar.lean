/- WireFar: the walk. No statement of the seat is proved here. -/
import Derived.Test.YtifnjdplbdpelaaWireAwake
import Derived.Test.YtifnjdplbdpelaaWireCut
import Derived.Test.YtifnjdplbdpelaaQuietB
namespace Go.Proofs.Ytifnjdplbdpelaa
open Go.RowKit

theorem Own.bytes {w W : World} {v : Value} {bs : List UInt8} (h : Own w v bs W) : Bytes W v bs := h.fresh.1.1
theorem Bytes.laterW2 {w w' : World} {u : Value} {bs : List UInt8} (h : Bytes w u bs) (hb : Below w.heap.size w w') : Bytes w' u bs := h.kept fun k _ hk => hb.block k hk
theorem numB_take_ne {a b : Int} (h : a ≠ b) : (numB a).take (min (numB a).length (numB b).length) ≠ (numB b).take (min (numB a).length (numB b).length) := fun e => by
  rcases Nat.le_total (numB a).length (numB b).length with hl | hl
  · rw [Nat.min_eq_left hl, List.take_length] at e
    have h1 : numB a ++ (numB b).drop (numB a).length = numB b ++ [] := by rw [List.append_nil]; conv => { lhs; lhs; rw [e] }; exact List.take_append_drop _ _
    exact h (numB_prefix h1).1
  · rw [Nat.min_eq_right hl, List.take_length] at e
    have h1 : numB b ++ (numB a).drop (numB b).length = numB a ++ [] := by rw [List.append_nil]; conv => { lhs; lhs; rw [← e] }; exact List.take_append_drop _ _
    exact h (numB_prefix h1).1.symm

set_option maxRecDepth 100000 in
set_option maxHeartbeats 8000000 in
theorem wireFar_any (hc : WireOk) (a b : Int) (ha : InR a) (hb : InR b) (w : World) : Calls Try.prog 6 #[.int .i64 a, .int .i64 b] w fun e w' => e = .returned (.bool true) ∧ Below w.heap.size w w' := by
  have HC := hide hc
  have HA := hide ha
  have HB := hide hb
  have HXP := hide (numB_pos a)
  have HXT := hide (numB_ten ha)
  have HYT := hide (numB_ten hb)
  have HTN := hide (fun h => numB_take_ne (a := a) (b := b) h)
  have HFAR : Hid (0 ≤ a ∧ a ≤ b ∨ a < 0 ∧ b ≤ a → (numB a).length ≤ (numB b).length) := numB_far
  clear hc ha hb
  go_enter Try.func6, Try.ntmps6
  go_wp2_with fail
  refine ((unhide HC).num (.slice none 0 0) [] a _ (unhide HA) (.inl ⟨rfl, rfl⟩) (by simp)).mono ?_
  rintro e w1 ⟨v, rfl, hO⟩
  rw [List.nil_append] at hO
  have HB1 := hide hO.bb
  have hBx := hO.bytes
  obtain ⟨xa, xc, rfl, hxc⟩ := hBx.form
  have HBX := hide hBx
  clear hO hBx
  go_wp2_with fail
  refine ((unhide HC).num (.slice none 0 0) [] b _ (unhide HB) (.inl ⟨rfl, rfl⟩) (by simp)).mono ?_
  rintro e w2 ⟨v, rfl, hO⟩
  rw [List.nil_append] at hO
  have HB2 := hide ((unhide HB1).trans (hO.bb.mono (unhide HB1).size))
  have HBX2 := hide ((unhide HBX).laterW2 hO.bb)
  have hBy := hO.bytes
  obtain ⟨ya, yc, rfl, hyc⟩ := hBy.form
  have HBY2 := hide hBy
  clear hO hBy HBX HB1
  obtain ⟨X, hX⟩ : ∃ X, X = (numB a).length := ⟨_, rfl⟩
  obtain ⟨Y, hY⟩ : ∃ Y, Y = (numB b).length := ⟨_, rfl⟩
  have HSZ : Hid (∀ W, Calls Try.prog 18 #[.int .i64 a] W fun e w' => e = .returned (.int .i64 ((X : Nat) : Int)) ∧ Below W.heap.size W w') := fun W => by rw [hX]; exact (unhide HC).size a W (unhide HA)
  rw [← hX] at HBX2 HXP HXT hxc ⊢
  rw [← hY] at HBY2 HYT hyc ⊢
  rw [← hX, ← hY] at HTN HFAR
  have HX := hide hX
  have HY := hide hY
  clear hX hY
  have h1 : ¬ ((X : Nat) : Int) < 1 := by have := unhide HXP; omega
  have h2 : ¬ ((X : Nat) : Int) > 10 := by have := unhide HXT; omega
  go_wp2_with fail
  refine (unhide HSZ _).mono ?_
  rintro e w3 ⟨rfl, hb3⟩
  have HB3 := hide ((unhide HB2).trans (hb3.mono (unhide HB2).size))
  have HBX3 := hide ((unhide HBX2).laterW2 hb3)
  have HBY3 := hide ((unhide HBY2).laterW2 hb3)
  clear hb3 HB2 HBX2 HBY2
  obtain ⟨K, hK⟩ : ∃ K, K = min X Y := ⟨_, rfl⟩
  have hKi : min ((X : Nat) : Int) ((Y : Nat) : Int) = ((K : Nat) : Int) := by omega
  have hKX : K ≤ X := by omega
  have hKY : K ≤ Y := by omega
  have HK := hide hK
  rw [← hK] at HTN
  clear hK
  go_upto_region 4 with fail
  go_cut [42] (fun z wx => (∃ q : Bool, z = .bool q ∧ (q = true → X ≤ Y)) ∧ wx = w3)
  case first =>
    by_cases h0 : a ≥ 0
    · have h0n : ¬ a < 0 := by omega
      by_cases h3 : b ≥ a
      · go_wp2_with fail
        go_meet
        exact ⟨⟨true, rfl, fun _ => unhide HFAR (.inl ⟨h0, h3⟩)⟩, rfl⟩
      · go_wp2_with fail
        go_meet
        exact ⟨⟨false, rfl, fun h => by cases h⟩, rfl⟩
    · have h0n : a < 0 := by omega
      by_cases h3 : b ≤ a
      · go_wp2_with fail
        go_meet
        exact ⟨⟨true, rfl, fun _ => unhide HFAR (.inr ⟨h0n, h3⟩)⟩, rfl⟩
      · go_wp2_with fail
        go_meet
        exact ⟨⟨false, rfl, fun h => by cases h⟩, rfl⟩
  obtain ⟨⟨q, rfl, hq⟩, hw⟩ := hcut
  rw [hw]
  clear hw
  go_upto_if 42 with fail
  go_cut [] (fun wx => wx = w3)
  case first =>
    cases q with
    | true =>
      have h4 : ¬ ((Y : Nat) : Int) < ((X : Nat) : Int) := by have := hq rfl; omega
      go_wp2_with fail
      go_meet
      rfl
    | false =>
      go_wp2_with fail
      go_meet
      rfl
  rw [hcut]
  clear hcut hq
  go_upto_region 8 with (refine wpList_min2 rfl (.tmp 49) (.tmp 51) 3 3 rfl _ _ _ _ rfl rfl ?_; rw [hKi])
  obtain ⟨q1, q1'⟩ := head_run (a := xa) (n := X) (c := xc) (h := K) (by omega)
  obtain ⟨q2, q2'⟩ := head_run (a := ya) (n := Y) (c := yc) (h := K) (by omega)
  have HTX := hide ((unhide HBX3).take (m := K) hKX (unhide HX).symm)
  have HTY := hide ((unhide HBY3).take (m := K) hKY (unhide HY).symm)
  have HAW := hide (wAwake_any (unhide HC))
  clear hKi hKX hKY HBX3 HBY3 h1 h2
  have hne : Nonempty (Later w3) := ⟨⟨w3, Below.refl _ _⟩⟩
  by_cases hab : a = b
  · have hab' : (a == b) = true := beq_iff_eq.2 hab
    have HE : Hid ((numB a).take K = (numB b).take K) := by show _ = _; rw [hab]
    rw [← unhide HE] at HTY
    clear hab
    refine wp_region_later (by kernel_rfl) ?_
    repeat (go_big_quiet_step ((rename_i x; first
      | (go_at_call 11; refine (wSame_true _ _ ((numB a).take K) _ (Later.bytes (unhide HTX) x) (Later.bytes (unhide HTY) x)).mono ?_; rintro e w11 ⟨rfl, hw⟩; exact ⟨rfl, x.same hw⟩)
      | (go_at_call 8; refine (unhide HAW _).mono ?_; rintro e w11 ⟨rfl, hb⟩; exact ⟨rfl, x.then hb⟩))))
    refine wpQuiet_nil ?_
    rintro _ ⟨x, rfl⟩
    have HFIN : Hid (Below w.heap.size w x.1) := (unhide HB3).trans (x.2.mono (unhide HB3).size)
    generalize x.1 = W20 at *
    go_wp2_with fail
    go_ret
    exact ⟨rfl, unhide HFIN⟩
  · have hab' : (a == b) = false := beq_eq_false_iff_ne.2 hab
    have HNE := hide (unhide HTN hab)
    clear hab
    refine wp_region_later (by kernel_rfl) ?_
    repeat (go_big_quiet_step ((rename_i x; first
      | (go_at_call 11; refine (wSame_false _ _ ((numB a).take K) ((numB b).take K) _ (Later.bytes (unhide HTX) x) (Later.bytes (unhide HTY) x) (unhide HNE)).mono ?_; rintro e w11 ⟨rfl, hw⟩; exact ⟨rfl, x.same hw⟩)
      | (go_at_call 8; refine (unhide HAW _).mono ?_; rintro e w11 ⟨rfl, hb⟩; exact ⟨rfl, x.then hb⟩))))
    refine wpQuiet_nil ?_
    rintro _ ⟨x, rfl⟩
    have HFIN : Hid (Below w.heap.size w x.1) := (unhide HB3).trans (x.2.mono (unhide HB3).size)
    generalize x.1 = W20 at *
    go_wp2_with fail
    go_ret
    exact ⟨rfl, unhide HFIN⟩
end Go.Proofs.Ytifnjdplbdpelaa
