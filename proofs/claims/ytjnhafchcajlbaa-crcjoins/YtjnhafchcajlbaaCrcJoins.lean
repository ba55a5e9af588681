/- CrcJoins: the walk. No statement of the seat is proved here. -/
import Derived.Test.YtjnhafchcajlbaaCrcOk
namespace Go.Proofs.Ytjnhafchcajlbaa
open Go.RowKit

/-- Two rows of bytes in a world that has turned nothing that was in w. -/
structure JR (w : World) (u1 u2 : Value) (x1 x2 : List UInt8) (W : World) : Prop where
  b1 : Bytes W u1 x1
  b2 : Bytes W u2 x2
  bb : Below w.heap.size w W
theorem JR.later {w W W' : World} {u1 u2 : Value} {x1 x2 : List UInt8} (h : JR w u1 u2 x1 x2 W) (hb : Below W.heap.size W W') : JR w u1 u2 x1 x2 W' := ⟨h.b1.kept fun k _ hk => hb.block k hk, h.b2.kept fun k _ hk => hb.block k hk, h.bb.trans (hb.mono h.bb.size)⟩

theorem sum_onto (A B : List UInt8) (j : Nat) (hj : j < B.length) : sumB (A ++ B.take (j + 1)) = nx (sumB (A ++ B.take j)) (B.getD j 0).toNat := by
  rw [List.take_succ_eq_append_getElem hj, ← List.append_assoc, sum_snoc, List.getD_eq_getElem?_getD, List.getElem?_eq_getElem hj]
  rfl

/-- Where append of bytes onto the empty row, or onto such a row, leads. -/
theorem grown_below {w W W' : World} {v v' : Value} (hb : Below w.heap.size w W) (hv : ∀ k, v.ownBlock = some k → w.heap.size ≤ k) (hg : W.grownBy W' v.ownBlock) (hn : v'.ownBlock = v.ownBlock ∨ ∃ k, v'.ownBlock = some k ∧ W.heap.size ≤ k) : Below w.heap.size w W' ∧ ∀ k, v'.ownBlock = some k → w.heap.size ≤ k :=
  ⟨hb.grown hg hb.size hv, fun k hk => by
    rcases hn with e | ⟨k', e, hle⟩
    · rw [e] at hk; exact hv k hk
    · rw [e] at hk; cases hk; have := hb.size; omega⟩

set_option maxRecDepth 100000 in
set_option maxHeartbeats 4000000 in
theorem joins_far (hc : CrcOk) (a1 a2 a3 : Option Addr) (n1 c1 n2 c2 n3 c3 : Nat) (w : World) (hf : 200 < n1 ∨ 200 < n2 ∨ 200 < n3) : Calls Try.prog 4 #[.slice a1 n1 c1, .slice a2 n2 c2, .slice a3 n3 c3] w fun e w' => e = .returned (.bool true) ∧ Below w.heap.size w w' := by
  have HC := hide hc
  by_cases g1 : (n1 : Int) > 200
  · clear hf
    clear hc
    go_enter Try.func4, Try.ntmps4
    go_wp2_with fail
    refine (awake_any (unhide HC) _).mono ?_
    rintro e w' ⟨rfl, hb⟩
    have HB := hide hb
    clear hb
    go_wp2
    go_ret
    exact ⟨rfl, unhide HB⟩
  by_cases g2 : (n2 : Int) > 200
  · clear hf
    clear hc
    go_enter Try.func4, Try.ntmps4
    go_wp2_with fail
    refine (awake_any (unhide HC) _).mono ?_
    rintro e w' ⟨rfl, hb⟩
    have HB := hide hb
    clear hb
    go_wp2
    go_ret
    exact ⟨rfl, unhide HB⟩
  · have g3 : (n3 : Int) > 200 := by omega
    clear hf
    clear hc
    go_enter Try.func4, Try.ntmps4
    go_wp2_with fail
    refine (awake_any (unhide HC) _).mono ?_
    rintro e w' ⟨rfl, hb⟩
    have HB := hide hb
    clear hb
    go_wp2
    go_ret
    exact ⟨rfl, unhide HB⟩

set_option maxRecDepth 100000 in
set_option maxHeartbeats 8000000 in
theorem joins_near (hc : CrcOk) (a1 a2 a3 : Option Addr) (n1 c1 n2 c2 n3 c3 : Nat) (A B C : List UInt8) (w : World) (h1 : Bytes w (.slice a1 n1 c1) A) (h2 : Bytes w (.slice a2 n2 c2) B) (h3 : Bytes w (.slice a3 n3 c3) C) (l1 : n1 ≤ 200) (l2 : n2 ≤ 200) (l3 : n3 ≤ 200) : Calls Try.prog 4 #[.slice a1 n1 c1, .slice a2 n2 c2, .slice a3 n3 c3] w fun e w' => e = .returned (.bool true) ∧ Below w.heap.size w w' := by
  have HC := hide hc
  have g1 : ¬ (n1 : Int) > 200 := by omega
  have g2 : ¬ (n2 : Int) > 200 := by omega
  have g3 : ¬ (n3 : Int) > 200 := by omega
  obtain ⟨hl1, _⟩ := bytes_len h1
  obtain ⟨hl2, _⟩ := bytes_len h2
  obtain ⟨hl3, _⟩ := bytes_len h3
  have LA : Hid (A.length = n1 ∧ n1 ≤ 200) := ⟨hl1, l1⟩
  have LB : Hid (B.length = n2 ∧ n2 ≤ 200) := ⟨hl2, l2⟩
  have LC : Hid (C.length = n3 ∧ n3 ≤ 200) := ⟨hl3, l3⟩
  obtain ⟨ti, hti, hz0, hz1, hz2⟩ := infoByte
  have H1 := hide h1
  have H2 := hide h2
  have H3 := hide h3
  have J1 : Hid (jn (sumB A) (sumB B) n2 = sumB (A ++ B)) := by show _ = _; rw [← hl2]; exact join_sum A B
  have J2 : Hid (jn (sumB (A ++ B)) (sumB C) n3 = sumB (A ++ B ++ C)) := by show _ = _; rw [← hl3]; exact join_sum (A ++ B) C
  have J3 : Hid (jn (sumB B) (sumB C) n3 = sumB (B ++ C)) := by show _ = _; rw [← hl3]; exact join_sum B C
  have J4 : Hid (jn (sumB A) (sumB (B ++ C)) (n2 + n3) = sumB (A ++ B ++ C)) := by show _ = _; rw [← hl2, ← hl3, ← List.length_append, join_sum A (B ++ C), List.append_assoc]
  have hw : IntKind.i64.wrap ((n2 : Int) + (n3 : Int)) = ((n2 + n3 : Nat) : Int) := by rw [IntKind.wrap_i64]; omega
  have HO := hide (own_nil w)
  have HU := hide (h1.alloc (.cells #[] 5))
  clear h1 h2 h3 hc hl1 hl2 hl3 l1 l3
  go_enter Try.func4, Try.ntmps4
  go_wp2_with (at_builtin; refine wpList_append_bytes _ rfl _ _ 23 rfl 5 ti (.int .u8 0) Try.underlying23 hti hz0 hz1 hz2 rfl _ [] rfl (unhide HO) _ A rfl (unhide HU) (by have := unhide LA; simp; omega) ?_)
  rintro v5 w5 r1 r2 r3
  have r1 : w5.ownsRow 0 5 1 v5 A.length (A.map bv) := by simpa using r1
  obtain ⟨hb5, hv5⟩ := grown_below ((Below.refl _ w).alloc (Nat.le_refl _) _) (fun k hk => by simp [Value.ownBlock] at hk; omega) r2 (r3.imp id fun ⟨k, e, hle⟩ => ⟨k, e, by simpa using hle⟩)
  have HO5 := hide r1
  have HV5 := hide hv5
  have HB5 := hide hb5
  have HU5 : Hid (Bytes w5 (.slice a2 n2 c2) B) := (unhide H2).kept fun k _ hk => hb5.block k hk
  clear r1 r2 r3 HO HU hb5 hv5
  go_wp2_with (at_builtin; refine wpList_append_bytes _ rfl _ _ 23 rfl 5 ti (.int .u8 0) Try.underlying23 hti hz0 hz1 hz2 rfl _ A rfl (unhide HO5) _ B rfl (unhide HU5) (by have := unhide LA; have := unhide LB; omega) ?_)
  rintro v6 w6 r1 r2 r3
  rw [← List.length_append, ← List.map_append] at r1
  obtain ⟨hb6, hv6⟩ := grown_below (unhide HB5) (unhide HV5) r2 r3
  have HV6 := hide (bytes_of_owns r1)
  have HB6 := hide hb6
  clear r1 r2 r3 HO5 HV5 HB5 HU5 hb6 hv6
  have HO := hide (own_nil w6)
  have HU := hide ((unhide HV6).alloc (.cells #[] 5))
  go_wp2_with (at_builtin; refine wpList_append_bytes _ rfl _ _ 23 rfl 5 ti (.int .u8 0) Try.underlying23 hti hz0 hz1 hz2 rfl _ [] rfl (unhide HO) _ (A ++ B) rfl (unhide HU) (by have := unhide LA; have := unhide LB; simp; omega) ?_)
  rintro v7 w7 r1 r2 r3
  have r1 : w7.ownsRow 0 5 1 v7 (A ++ B).length ((A ++ B).map bv) := by simpa using r1
  obtain ⟨hb7, hv7⟩ := grown_below (w := w6) ((Below.refl _ w6).alloc (Nat.le_refl _) _) (fun k hk => by simp [Value.ownBlock] at hk; omega) r2 (r3.imp id fun ⟨k, e, hle⟩ => ⟨k, e, by simpa using hle⟩)
  have HO7 := hide r1
  have HV7 := hide hv7
  have HB7 := hide hb7
  have HU7 : Hid (Bytes w7 (.slice a3 n3 c3) C) := ((unhide H3).kept fun k _ hk => (unhide HB6).block k hk).kept fun k _ hk => hb7.block k hk
  clear r1 r2 r3 HO HU hb7 hv7
  go_wp2_with (at_builtin; refine wpList_append_bytes _ rfl _ _ 23 rfl 5 ti (.int .u8 0) Try.underlying23 hti hz0 hz1 hz2 rfl _ (A ++ B) rfl (unhide HO7) _ C rfl (unhide HU7) (by have := unhide LA; have := unhide LB; have := unhide LC; rw [List.length_append]; omega) ?_)
  rintro v8 w8 r1 r2 r3
  have r1 : w8.ownsRow 0 5 1 v8 (A ++ B ++ C).length ((A ++ B ++ C).map bv) := by simpa [List.append_assoc, Nat.add_assoc] using r1
  obtain ⟨hb8, hv8⟩ := grown_below (unhide HB7) (unhide HV7) r2 r3
  have HJw8 : Hid (JR w v6 v8 (A ++ B) (A ++ B ++ C) w8) := ⟨(unhide HV6).kept fun k _ hk => hb8.block k hk, bytes_of_owns r1, (unhide HB6).trans (hb8.mono (unhide HB6).size)⟩
  clear r1 r2 r3 HO7 HV7 HB7 HU7 hb8 hv8 HV6 HB6
  go_wp2_with fail
  refine ((unhide HC).sum (.slice a1 n1 c1) A _ ((unhide H1).kept fun k _ hk => (unhide HJw8).bb.block k hk) (by have := unhide LA; omega)).mono ?_
  rintro e w9 ⟨rfl, hb⟩
  have HJw9 := hide ((unhide HJw8).later hb)
  clear hb HJw8
  go_wp2_with fail
  refine ((unhide HC).sum (.slice a2 n2 c2) B _ ((unhide H2).kept fun k _ hk => (unhide HJw9).bb.block k hk) (by have := unhide LB; omega)).mono ?_
  rintro e w10 ⟨rfl, hb⟩
  have HJw10 := hide ((unhide HJw9).later hb)
  clear hb HJw9
  go_wp2_with fail
  refine ((unhide HC).sum (.slice a3 n3 c3) C _ ((unhide H3).kept fun k _ hk => (unhide HJw10).bb.block k hk) (by have := unhide LC; omega)).mono ?_
  rintro e w11 ⟨rfl, hb⟩
  have HJw11 := hide ((unhide HJw10).later hb)
  clear hb HJw10
  go_wp2_with fail
  refine ((unhide HC).join (sumB A) (sumB B) n2 _ (sum_lt _) (sum_lt _) (by have := unhide LB; omega)).mono ?_
  rintro e w12 ⟨rfl, hb⟩
  rw [unhide J1]
  have HJw12 := hide ((unhide HJw11).later hb)
  clear hb HJw11
  go_wp2_with fail
  refine ((unhide HC).sum v6 (A ++ B) _ ((unhide HJw12).b1) (by rw [List.length_append]; have := unhide LA; have := unhide LB; omega)).mono ?_
  rintro e w13 ⟨rfl, hb⟩
  have HJw13 := hide ((unhide HJw12).later hb)
  clear hb HJw12
  go_wp2_with fail
  go_loopw [12, 58] (fun s i W => ∃ j : Nat, j ≤ n2 ∧ i = .int .i64 j ∧ s = .int .u32 ((sumB (A ++ B.take j) : Nat) : Int) ∧ JR w v6 v8 (A ++ B) (A ++ B ++ C) W) (fun _ i _ => n2 - (intOf i).toNat)
  case atStart => exact ⟨0, by omega, rfl, by rw [List.take_zero, List.append_nil], unhide HJw13⟩
  case round =>
    obtain ⟨j, hj, rfl, rfl, hJ⟩ := hrel
    have HJwr := hide hJ
    clear hJ HJw13
    by_cases hlt : j < n2
    · obtain ⟨ad, hae, hcell⟩ := ((unhide H2).kept fun k _ hk => (unhide HJwr).bb.block k hk : Bytes wr (.slice a2 n2 c2) B).at hlt (unhide LB).1
      subst hae
      have hk1 : (j : Int) < (n2 : Int) := by omega
      have HS := hide (sum_onto A B j (by have := unhide LB; omega))
      have HSL := hide (sum_lt (A ++ B.take j))
      have HBL : Hid ((B.getD j 0).toNat < 256) := (B.getD j 0).toNat_lt
      generalize sumB (A ++ B.take j) = x at *
      generalize (B.getD j 0).toNat = y at *
      go_wp2_with fail
      refine ((unhide HC).next x y _ (unhide HSL) (unhide HBL)).mono ?_
      rintro e w14 ⟨rfl, hb⟩
      have HJ2 := hide ((unhide HJwr).later hb)
      clear hb HJwr
      go_wp2_with fail
      exact ⟨⟨j + 1, by omega, by go_num, by rw [unhide HS], unhide HJ2⟩, by simp [intOf]; omega⟩
    · have e : j = n2 := by omega
      subst e
      have HT : Hid (B.take j = B) := List.take_of_length_le (by have := unhide LB; omega)
      rw [unhide HT]
      go_wp2_with fail
      refine ((unhide HC).join (sumB A) (sumB B) j _ (sum_lt _) (sum_lt _) (by have := unhide LB; omega)).mono ?_
      rintro e w15 ⟨rfl, hb⟩
      rw [unhide J1]
      have HJw15 := hide ((unhide HJwr).later hb)
      clear hb HJwr
      go_wp2_with fail
      refine ((unhide HC).join (sumB (A ++ B)) (sumB C) n3 _ (sum_lt _) (sum_lt _) (by have := unhide LC; omega)).mono ?_
      rintro e w16 ⟨rfl, hb⟩
      rw [unhide J2]
      have HJw16 := hide ((unhide HJw15).later hb)
      clear hb HJw15
      go_wp2_with fail
      refine ((unhide HC).join (sumB B) (sumB C) n3 _ (sum_lt _) (sum_lt _) (by have := unhide LC; omega)).mono ?_
      rintro e w17 ⟨rfl, hb⟩
      rw [unhide J3]
      have HJw17 := hide ((unhide HJw16).later hb)
      clear hb HJw16
      go_wp2_with fail
      refine ((unhide HC).join (sumB A) (sumB (B ++ C)) (j + n3) _ (sum_lt _) (sum_lt _) (by have := unhide LB; have := unhide LC; omega)).mono ?_
      rintro e w18 ⟨rfl, hb⟩
      rw [unhide J4]
      have HJw18 := hide ((unhide HJw17).later hb)
      clear hb HJw17
      go_wp2_with fail
      refine ((unhide HC).sum v6 (A ++ B) _ ((unhide HJw18).b1) (by rw [List.length_append]; have := unhide LA; have := unhide LB; omega)).mono ?_
      rintro e w19 ⟨rfl, hb⟩
      have HJw19 := hide ((unhide HJw18).later hb)
      clear hb HJw18
      go_wp2_with fail
      refine ((unhide HC).sum v8 (A ++ B ++ C) _ ((unhide HJw19).b2) (by rw [List.length_append, List.length_append]; have := unhide LA; have := unhide LB; have := unhide LC; omega)).mono ?_
      rintro e w20 ⟨rfl, hb⟩
      have HJw20 := hide ((unhide HJw19).later hb)
      clear hb HJw19
      go_wp2_with fail
      refine (awake_any (unhide HC) _).mono ?_
      rintro e w21 ⟨rfl, hb⟩
      have HJw21 := hide ((unhide HJw20).later hb)
      clear hb HJw20
      go_wp2
      go_ret
      exact ⟨rfl, (unhide HJw21).bb⟩

theorem crcJoins_any (hc : CrcOk) (a1 a2 a3 : Option Addr) (n1 c1 n2 c2 n3 c3 : Nat) (A B C : List UInt8) (w : World) (h1 : Bytes w (.slice a1 n1 c1) A) (h2 : Bytes w (.slice a2 n2 c2) B) (h3 : Bytes w (.slice a3 n3 c3) C) : Calls Try.prog 4 #[.slice a1 n1 c1, .slice a2 n2 c2, .slice a3 n3 c3] w fun e w' => e = .returned (.bool true) ∧ Below w.heap.size w w' := by
  by_cases hf : 200 < n1 ∨ 200 < n2 ∨ 200 < n3
  · exact joins_far hc a1 a2 a3 n1 c1 n2 c2 n3 c3 w hf
  · exact joins_near hc a1 a2 a3 n1 c1 n2 c2 n3 c3 A B C w h1 h2 h3 (by omega) (by omega) (by omega)
end Go.Proofs.Ytjnhafchcajlbaa
