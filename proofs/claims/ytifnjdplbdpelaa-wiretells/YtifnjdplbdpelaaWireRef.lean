/- The document's numbers and texts (foremanref07): what its functions Num and Text answer. No statement of the seat is proved here. -/
import Derived.Test.YtifnjdplbdpelaaGenStep
import Derived.Test.YtifnjdplbdpelaaWireMath
namespace Go.Proofs.Ytifnjdplbdpelaa
open Go.RowKit

theorem wRefPlain_any (n : Int) (hn : InR n) (w : World) : Calls Try.prog 26 #[.int .i64 n] w fun e w' => e = .returned (.int .u64 (zz n : Nat)) ∧ w' = w := by
  obtain ⟨h1, h2⟩ := hn
  by_cases h : n < 0
  · have HZ : Hid ((zz n : Int) = -2 * n - 1) := by show _ = _; unfold zz; rw [if_pos h]; omega
    have h' : ¬ n ≥ 0 := by omega
    go_enter Try.func26, Try.ntmps26
    go_wp2
    go_ret
    refine ⟨ret_int ?_, rfl⟩
    rw [unhide HZ]
    try simp only [IntKind.wrap_u64]
    omega
  · have HZ : Hid ((zz n : Int) = 2 * n) := by show _ = _; unfold zz; rw [if_neg h]; omega
    have h' : n ≥ 0 := by omega
    go_enter Try.func26, Try.ntmps26
    go_wp2
    go_ret
    refine ⟨ret_int ?_, rfl⟩
    rw [unhide HZ]

set_option maxRecDepth 100000 in
set_option maxHeartbeats 2000000 in
theorem wRefNum_any (n : Int) (hn : InR n) (w : World) : Calls Try.prog 15 #[.int .i64 n] w fun e w' => ∃ r, e = .returned r ∧ Own w r (numB n) w' := by
  obtain ⟨ti, hti, hz0, hz1, hz2⟩ := infoByte
  have HN := hide hn
  have HT := hide (numB_ten hn)
  clear hn
  go_enter Try.func15, Try.ntmps15
  go_wp2_with fail
  refine (wRefPlain_any n (unhide HN) _).mono ?_
  rintro e w1 ⟨rfl, hw⟩
  rw [hw]
  clear hw w1
  have HZL := hide (zz_lt (unhide HN))
  go_wp2
  go_loopw [3, 4] (fun u r W => ∃ (v : Nat) (pre : List UInt8), u = .int .u64 ((v : Nat) : Int) ∧ v < 18446744073709551616 ∧ pre ++ grp v = numB n ∧ Own w r pre W) (fun u _ _ => (intOf u).toNat)
  case atStart => exact ⟨zz n, [], rfl, unhide HZL, rfl, Own.start w⟩
  case round =>
    obtain ⟨v, pre, rfl, hv, he, hO⟩ := hrel
    have HV := hide hv
    have HO := hide hO
    have HL : Hid (pre.length < (numB n).length) := by
      show _ < _
      have h1 := congrArg List.length he
      have := grp_pos v
      rw [List.length_append] at h1
      omega
    by_cases hlt : 128 ≤ v
    · have hge : ((v : Nat) : Int) ≥ 128 := by omega
      have hx : ((v : Nat) : Int) % 128 + 128 = (((UInt8.ofNat (128 + v % 128)).toNat : Nat) : Int) := by rw [u8_toNat (by omega)]; omega
      have HE : Hid ((pre ++ [UInt8.ofNat (128 + v % 128)]) ++ grp (v / 128) = numB n) := by
        show _ = _
        rw [← he, grp_high hlt, List.append_assoc]; rfl
      generalize UInt8.ofNat (128 + v % 128) = y at *
      have HYB := hide (bytes_one wr y)
      have HOA := hide ((unhide HO).alloc (.cells #[.int .u8 (y.toNat : Nat)] 5))
      clear hO he
      go_wp2_with (at_builtin; refine wpList_append_bytes _ rfl _ _ 22 rfl 5 ti (.int .u8 0) Try.underlying22 hti hz0 hz1 hz2 rfl _ pre rfl (unhide HOA).own _ [y] rfl (unhide HYB) (by have := unhide HL; have := unhide HT; simp; omega) ?_)
      rintro v' w2 r1 r2 r3
      have HO2 := hide ((unhide HOA).grown (cs := pre ++ [y]) (by simpa using r1) r2 (by simpa using r3))
      clear r1 r2 r3
      go_wp2
      exact ⟨⟨v / 128, _, by go_num, by omega, unhide HE, unhide HO2⟩, by simp [intOf]; omega⟩
    · have hge : ¬ ((v : Nat) : Int) ≥ 128 := by omega
      have hx : Hid (((v : Nat) : Int) = (((UInt8.ofNat v).toNat : Nat) : Int)) := by show _ = _; rw [u8_toNat (by omega)]
      have HE : Hid (pre ++ [UInt8.ofNat v] = numB n) := by
        show _ = _
        rw [← he, grp_low (by omega)]
      generalize UInt8.ofNat v = y at *
      have HYB : Hid (Bytes (wr.alloc (.cells #[.int .u8 ((v : Nat) : Int)] 5)) (.slice (some ⟨wr.heap.size, 0, none⟩) 1 1) [y]) := by rw [unhide hx]; exact bytes_one wr y
      have HOA := hide ((unhide HO).alloc (.cells #[.int .u8 ((v : Nat) : Int)] 5))
      clear hO he hv
      go_wp2_with (at_builtin; refine wpList_append_bytes _ rfl _ _ 22 rfl 5 ti (.int .u8 0) Try.underlying22 hti hz0 hz1 hz2 rfl _ pre rfl (unhide HOA).own _ [y] rfl (unhide HYB) (by have := unhide HL; have := unhide HT; simp; omega) ?_)
      rintro v' w2 r1 r2 r3
      have HO2 := hide ((unhide HOA).grown (cs := pre ++ [y]) (by simpa using r1) r2 (by simpa using r3))
      clear r1 r2 r3
      go_wp2
      go_ret
      refine ⟨_, rfl, ?_⟩
      rw [← unhide HE]
      exact unhide HO2

set_option maxRecDepth 100000 in
set_option maxHeartbeats 2000000 in
theorem wRefText_any (s : List UInt8) (hs : s.length ≤ 1048576) (w : World) : Calls Try.prog 17 #[.string ⟨s.toArray⟩] w fun e w' => ∃ r, e = .returned r ∧ Own w r (textB s) w' := by
  obtain ⟨ti, hti, hz0, hz1, hz2⟩ := infoByte
  have hsz : (⟨s.toArray⟩ : ByteArray).size = s.length := by simp [ByteArray.size]
  have hget : ∀ j (h : j < s.length) (h' : j < (⟨s.toArray⟩ : ByteArray).size), (⟨s.toArray⟩ : ByteArray)[j]'h' = s[j]'h := fun j h h' => by
    show s.toArray[j] = s[j]'h
    simp
  obtain ⟨z, hz⟩ : ∃ z : ByteArray, z = ⟨s.toArray⟩ := ⟨_, rfl⟩
  rw [← hz] at hsz hget ⊢
  have HGET := hide hget
  have HN : Hid (InR ((s.length : Nat) : Int)) := by show InR _; unfold InR; omega
  have HT := hide (numB_ten (unhide HN))
  have HTB : Hid (textB s = numB ((s.length : Nat) : Int) ++ s) := rfl
  obtain ⟨n, hn⟩ : ∃ n, n = s.length := ⟨_, rfl⟩
  rw [← hn] at hsz hs HN HT HTB
  have HNS := hide hn
  clear hz hget hn
  go_enter Try.func17, Try.ntmps17
  go_wp2_with fail
  refine (wRefNum_any _ (unhide HN) _).mono ?_
  rintro e w1 ⟨r, rfl, hO⟩
  have HO := hide hO
  clear hO
  go_wp2
  go_loopw [3, 4] (fun r k W => ∃ j : Nat, j ≤ n ∧ k = .int .i64 j ∧ Own w r (numB ((n : Nat) : Int) ++ s.take j) W) (fun _ k _ => n - (intOf k).toNat)
  case atStart => exact ⟨0, by omega, rfl, by simpa using unhide HO⟩
  case round =>
    obtain ⟨j, hj, rfl, hO⟩ := hrel
    have HO := hide hO
    clear hO
    by_cases hlt : j < n
    · have hk1 : (j : Int) < (n : Int) := by omega
      have hjz : j < z.size := by omega
      have HS : Hid (s.take (j + 1) = s.take j ++ [z[j]'hjz]) := by
        show _ = _
        rw [List.take_succ_eq_append_getElem (by have := unhide HNS; omega), unhide HGET j (by have := unhide HNS; omega) hjz]
      have HSL : Hid ((s.take j).length ≤ n) := by show _ ≤ _; rw [List.length_take]; omega
      have HYB := hide (bytes_one wr (z[j]'hjz))
      have HOA := hide ((unhide HO).alloc (.cells #[.int .u8 ((z[j]'hjz).toNat : Nat)] 5))
      go_wp2_with (at_builtin; refine wpList_append_bytes _ rfl _ _ 22 rfl 5 ti (.int .u8 0) Try.underlying22 hti hz0 hz1 hz2 rfl _ _ rfl (unhide HOA).own _ [z[j]'hjz] rfl (unhide HYB) (by have := unhide HSL; have := unhide HT; simp only [List.length_append, List.length_singleton]; omega) ?_)
      rintro v' w2 r1 r2 r3
      have HO2 := hide ((unhide HOA).grown (cs := (numB ((n : Nat) : Int) ++ s.take j) ++ [z[j]'hjz]) (by simpa using r1) r2 (by simpa using r3))
      clear r1 r2 r3
      go_wp2
      exact ⟨⟨j + 1, by omega, by go_num, by rw [unhide HS, ← List.append_assoc]; exact unhide HO2⟩, by simp [intOf]; omega⟩
    · have e : j = n := by omega
      subst e
      have HTK : Hid (s.take j = s) := List.take_of_length_le (by have := unhide HNS; omega)
      rw [unhide HTK] at HO
      go_wp2
      go_ret
      refine ⟨_, rfl, ?_⟩
      rw [unhide HTB]
      exact unhide HO
end Go.Proofs.Ytifnjdplbdpelaa
