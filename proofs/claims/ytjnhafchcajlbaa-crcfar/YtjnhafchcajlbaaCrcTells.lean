/- CrcTells, CrcFar: the walks. No statement of the seat is proved here. -/
import Derived.Test.YtjnhafchcajlbaaCrcOk
namespace Go.Proofs.Ytjnhafchcajlbaa
open Go.RowKit

set_option maxRecDepth 100000 in
set_option maxHeartbeats 4000000 in
theorem crcTells_any (hc : CrcOk) (i s : Nat) (hi : i < 256) (hs : s < 4294967296) (a : Option Addr) (n c : Nat) (bs : List UInt8) (w : World) (h : Bytes w (.slice a n c) bs) : Calls Try.prog 3 #[.int .u8 (i : Nat), .int .u32 (s : Nat), .slice a n c] w fun e w' => e = .returned (.bool true) ∧ Below w.heap.size w w' := by
  obtain ⟨hl, hnc⟩ := bytes_len h
  have HC := hide hc
  by_cases h300 : n > 300
  · have h300' : (n : Int) > 300 := by omega
    clear h hc hl hnc h300
    go_enter Try.func3, Try.ntmps3
    go_wp2_with fail
    refine (awake_any (unhide HC) _).mono ?_
    rintro e w' ⟨rfl, hb⟩
    have HB := hide hb
    clear hb
    go_wp2
    go_ret
    exact ⟨rfl, unhide HB⟩
  · have h300' : ¬ (n : Int) > 300 := by omega
    obtain ⟨ti, hti, hz0, hz1, hz2⟩ := infoByte
    have HO := hide (own_nil w)
    have HU := hide (h.alloc (.cells #[] 5))
    have HH := hide h
    have HL : Hid (bs.length ≤ 300) := by show _ ≤ 300; omega
    have HI := hide hi
    have HS := hide hs
    clear h hc hl hnc h300 hi hs
    go_enter Try.func3, Try.ntmps3
    go_wp2_with (at_builtin; refine wpList_append_bytes _ rfl _ _ 23 rfl 5 ti (.int .u8 0) Try.underlying23 hti hz0 hz1 hz2 rfl _ [] rfl (unhide HO) _ bs rfl (unhide HU) (by have := unhide HL; simp; omega) ?_)
    rintro v' w1 r1 r2 r3
    have r1 : w1.ownsRow 0 5 1 v' bs.length (bs.map bv) := by simpa using r1
    have hB : Below w.heap.size w w1 := ((Below.refl _ w).alloc (Nat.le_refl _) _).grown r2 (by simp) (fun k hk => by simp [Value.ownBlock] at hk; omega)
    have HV := hide (bytes_of_owns r1)
    have HB := hide hB
    clear r1 r2 r3 hB HO HU
    go_wp2_with fail
    refine ((unhide HC).table i _ (unhide HI)).mono ?_
    rintro e w2 ⟨rfl, hb⟩
    have HV2 : Hid (Bytes w2 v' bs) := (unhide HV).kept fun k _ hk => hb.block k hk
    have HB2 := hide ((unhide HB).trans (hb.mono (unhide HB).size))
    clear hb HV HB
    go_wp2_with fail
    refine (refTable_any i (unhide HI) _).mono ?_
    rintro e w' ⟨rfl, rfl⟩
    go_wp2_with fail
    refine ((unhide HC).next s i _ (unhide HS) (unhide HI)).mono ?_
    rintro e w3 ⟨rfl, hb⟩
    have HV3 : Hid (Bytes w3 v' bs) := (unhide HV2).kept fun k _ hk => hb.block k hk
    have HB3 := hide ((unhide HB2).trans (hb.mono (unhide HB2).size))
    clear hb HV2 HB2
    go_wp2_with fail
    refine (refNext_any s i (unhide HS) (unhide HI) _).mono ?_
    rintro e w' ⟨rfl, rfl⟩
    go_wp2_with fail
    refine ((unhide HC).sum v' bs _ (unhide HV3) (by have := unhide HL; omega)).mono ?_
    rintro e w4 ⟨rfl, hb⟩
    have HV4 : Hid (Bytes w4 v' bs) := (unhide HV3).kept fun k _ hk => hb.block k hk
    have HB4 := hide ((unhide HB3).trans (hb.mono (unhide HB3).size))
    clear hb HV3 HB3
    have HH4 : Hid (Bytes w4 (.slice a n c) bs) := (unhide HH).kept fun k _ hk => (unhide HB4).block k hk
    go_wp2_with fail
    refine (refSum_any (.slice a n c) bs _ (unhide HH4) (by have := unhide HL; omega)).mono ?_
    rintro e w' ⟨rfl, rfl⟩
    have c1 := run_convert_bytes (P := Try.prog) _ 23 9 5 Try.underlying23 Try.underlying5 Try.underlying9 v' bs (unhide HV4)
    have c2 := run_convert_bytes (P := Try.prog) _ 23 9 5 Try.underlying23 Try.underlying5 Try.underlying9 (.slice a n c) bs (unhide HH4)
    generalize (⟨bs.toArray⟩ : ByteArray) = s1 at *
    go_wp2_with fail
    refine (awake_any (unhide HC) _).mono ?_
    rintro e w9 ⟨rfl, hb⟩
    have HB9 := hide ((unhide HB4).trans (hb.mono (unhide HB4).size))
    clear hb
    go_wp2
    go_ret
    exact ⟨rfl, unhide HB9⟩

set_option maxRecDepth 100000 in
set_option maxHeartbeats 4000000 in
theorem crcFar_any (hc : CrcOk) (s m n : Nat) (bad : Int) (hs : s < 4294967296) (hm : m < 4294967296) (hn : n < 4294967296) (hb : -9223372036854775808 ≤ bad ∧ bad ≤ 9223372036854775807) (w : World) : Calls Try.prog 5 #[.int .u32 (s : Nat), .int .u32 (m : Nat), .int .u32 (n : Nat), .int .i64 bad] w fun e w' => e = .returned (.bool true) ∧ Below w.heap.size w w' := by
  have HC := hide hc
  obtain ⟨x, hx, hx1⟩ : ∃ x : Nat, (m : Int) % 1073741824 = x ∧ x < 1073741824 := ⟨m % 1073741824, by omega, by omega⟩
  obtain ⟨y, hy, hy1⟩ : ∃ y : Nat, (n : Int) % 1073741824 = y ∧ y < 1073741824 := ⟨n % 1073741824, by omega, by omega⟩
  have hw1 : IntKind.i64.wrap ((x : Int) + (y : Int)) = ((x + y : Nat) : Int) := by rw [IntKind.wrap_i64]; omega
  have hw2 : IntKind.i64.wrap (2147483648 + (x : Int)) = 2147483648 + (x : Int) := by rw [IntKind.wrap_i64]; omega
  have hw3 : IntKind.i64.wrap (-1 - bad) = -1 - bad := by rw [IntKind.wrap_i64]; omega
  have hj1 := join_zero s 0 x y
  have hj2 := join_none s
  have HJ1 := hide hj1
  have HJ2 := hide hj2
  have HS := hide hs
  have HX1 := hide hx1
  have HY1 := hide hy1
  have HX := hide hx
  have HY := hide hy
  clear hc hj1 hj2 hs hx hy
  by_cases hbad : bad ≥ 0
  · clear hb
    go_enter Try.func5, Try.ntmps5
    go_upto_region 2 with fail
    rw [unhide HX, unhide HY]
    go_wp2_with fail
    refine ((unhide HC).join s 0 x _ (unhide HS) (by omega) (by have := unhide HX1; omega)).mono ?_
    rintro e w1 ⟨rfl, hb1⟩
    have HB1 := hide hb1
    clear hb1
    go_wp2_with fail
    refine ((unhide HC).join (jn s 0 x) 0 y _ (jn_lt (unhide HS) (by omega)) (by omega) (by have := unhide HY1; omega)).mono ?_
    rintro e w2 ⟨rfl, hb2⟩
    rw [unhide HJ1]
    have HB2 := hide ((unhide HB1).trans (hb2.mono (unhide HB1).size))
    clear hb2 HB1
    go_wp2_with fail
    refine ((unhide HC).join s 0 (x + y) _ (unhide HS) (by omega) (by have := unhide HX1; have := unhide HY1; omega)).mono ?_
    rintro e w3 ⟨rfl, hb3⟩
    have HB3 := hide ((unhide HB2).trans (hb3.mono (unhide HB2).size))
    clear hb3 HB2
    go_wp2_with fail
    refine ((unhide HC).join s 0 0 _ (unhide HS) (by omega) (by omega)).mono ?_
    rintro e w4 ⟨rfl, hb4⟩
    rw [unhide HJ2]
    have HB4 := hide ((unhide HB3).trans (hb4.mono (unhide HB3).size))
    clear hb4 HB3
    go_wp2_with fail
    refine ((unhide HC).joinBad s 7 (-1 - bad) _ (unhide HS) (by omega) (by omega)).mono ?_
    rintro e w5 ⟨rfl, hb5⟩
    have HB5 := hide ((unhide HB4).trans (hb5.mono (unhide HB4).size))
    clear hb5 HB4
    go_wp2_with fail
    refine ((unhide HC).joinBad s 7 (2147483648 + (x : Int)) _ (unhide HS) (by omega) (by omega)).mono ?_
    rintro e w6 ⟨rfl, hb6⟩
    have HB6 := hide ((unhide HB5).trans (hb6.mono (unhide HB5).size))
    clear hb6 HB5
    go_wp2_with fail
    refine (awake_any (unhide HC) _).mono ?_
    rintro e w7 ⟨rfl, hb7⟩
    have HB7 := hide ((unhide HB6).trans (hb7.mono (unhide HB6).size))
    clear hb7 HB6
    go_wp2
    go_ret
    exact ⟨rfl, unhide HB7⟩
  · clear hb hw3
    go_enter Try.func5, Try.ntmps5
    go_upto_region 2 with fail
    rw [unhide HX, unhide HY]
    go_wp2_with fail
    refine ((unhide HC).join s 0 x _ (unhide HS) (by omega) (by have := unhide HX1; omega)).mono ?_
    rintro e w1 ⟨rfl, hb1⟩
    have HB1 := hide hb1
    clear hb1
    go_wp2_with fail
    refine ((unhide HC).join (jn s 0 x) 0 y _ (jn_lt (unhide HS) (by omega)) (by omega) (by have := unhide HY1; omega)).mono ?_
    rintro e w2 ⟨rfl, hb2⟩
    rw [unhide HJ1]
    have HB2 := hide ((unhide HB1).trans (hb2.mono (unhide HB1).size))
    clear hb2 HB1
    go_wp2_with fail
    refine ((unhide HC).join s 0 (x + y) _ (unhide HS) (by omega) (by have := unhide HX1; have := unhide HY1; omega)).mono ?_
    rintro e w3 ⟨rfl, hb3⟩
    have HB3 := hide ((unhide HB2).trans (hb3.mono (unhide HB2).size))
    clear hb3 HB2
    go_wp2_with fail
    refine ((unhide HC).join s 0 0 _ (unhide HS) (by omega) (by omega)).mono ?_
    rintro e w4 ⟨rfl, hb4⟩
    rw [unhide HJ2]
    have HB4 := hide ((unhide HB3).trans (hb4.mono (unhide HB3).size))
    clear hb4 HB3
    go_wp2_with fail
    refine ((unhide HC).joinBad s 7 bad _ (unhide HS) (by omega) (by omega)).mono ?_
    rintro e w5 ⟨rfl, hb5⟩
    have HB5 := hide ((unhide HB4).trans (hb5.mono (unhide HB4).size))
    clear hb5 HB4
    go_wp2_with fail
    refine ((unhide HC).joinBad s 7 (2147483648 + (x : Int)) _ (unhide HS) (by omega) (by omega)).mono ?_
    rintro e w6 ⟨rfl, hb6⟩
    have HB6 := hide ((unhide HB5).trans (hb6.mono (unhide HB5).size))
    clear hb6 HB5
    go_wp2_with fail
    refine (awake_any (unhide HC) _).mono ?_
    rintro e w7 ⟨rfl, hb7⟩
    have HB7 := hide ((unhide HB6).trans (hb7.mono (unhide HB6).size))
    clear hb7 HB6
    go_wp2
    go_ret
    exact ⟨rfl, unhide HB7⟩
end Go.Proofs.Ytjnhafchcajlbaa
