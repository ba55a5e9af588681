/- The document's numbers and texts (foremanref07): what its TakeNum answers. No statement of the seat is proved here. -/
import Derived.Test.YtifnjdplbdpelaaWireRef
namespace Go.Proofs.Ytifnjdplbdpelaa
open Go.RowKit

/-- What the document's TakeNum tells of bytes. -/
def RefNum (bs : List UInt8) (e : Ending) : Prop :=
  (∃ (x : Int) (k : Nat), Reads bs x k ∧ e = .returned (.tuple #[.int .i64 x, .int .i64 ((k : Nat) : Int)])) ∨ (NoNum bs ∧ e = .returned (.tuple #[.int .i64 0, .int .i64 0]))

theorem pow128_le {j : Nat} (h : j ≤ 9) : 128 ^ j ≤ 9223372036854775808 := by
  have h1 := Nat.pow_le_pow_right (n := 128) (by omega) h
  have h2 : (128 ^ 9 : Nat) = 9223372036854775808 := by decide
  omega

set_option maxRecDepth 100000 in
set_option maxHeartbeats 4000000 in
theorem wRefTakeNum_any (u : Value) (bs : List UInt8) (w : World) (h : Bytes w u bs) (hl : bs.length ≤ 1048576) : Calls Try.prog 10 #[u] w fun e w' => RefNum bs e ∧ w' = w := by
  obtain ⟨a, c, rfl, hlc⟩ := h.form
  obtain ⟨n, hn⟩ : ∃ n, n = bs.length := ⟨_, rfl⟩
  rw [← hn] at h hlc hl ⊢
  have HH := hide h
  have HN := hide hn
  clear h hn
  go_enter Try.func10, Try.ntmps10
  go_wp2
  go_loopw [4, 5, 6] (fun u v k W => ∃ j U V : Nat, j ≤ n ∧ j ≤ 10 ∧ k = .int .i64 j ∧ u = .int .u64 ((U : Nat) : Int) ∧ v = .int .u64 ((V : Nat) : Int) ∧ Highs (bs.take j) ∧ (j ≤ 9 → U = val (bs.take j) ∧ V = 128 ^ j) ∧ W = w) (fun _ _ k _ => n - (intOf k).toNat)
  case atStart => exact ⟨0, 0, 1, by omega, by omega, rfl, rfl, rfl, fun x hx => by simp at hx, fun _ => ⟨by simp [val], rfl⟩, rfl⟩
  case round =>
    obtain ⟨j, U, V, hj, hj10, rfl, rfl, rfl, hH, hUV, hw⟩ := hrel
    rw [hw]
    clear hw
    have HHI := hide hH
    by_cases hlt : j < n
    · by_cases h9 : j ≤ 9
      · obtain ⟨hU, hV⟩ := hUV h9
        have hl1 : (bs.take j).length = j := by rw [List.length_take]; have := unhide HN; omega
        have hUV2 := val_lt (bs.take j)
        rw [hl1, ← hU, ← hV] at hUV2
        have hVm : V ≤ 9223372036854775808 := by rw [hV]; exact pow128_le h9
        have hV8 : j ≤ 8 → V ≤ 72057594037927936 := fun h8 => by
          rw [hV]
          have h1 := Nat.pow_le_pow_right (n := 128) (by omega) h8
          have h2 : (128 ^ 8 : Nat) = 72057594037927936 := by decide
          omega
        have hVs : 128 ^ (j + 1) = V * 128 := by rw [hV, Nat.pow_succ]
        have HVS := hide hVs
        obtain ⟨ad, rfl, hc⟩ := (unhide HH).at hlt (unhide HN).symm
        have hk1 : (j : Int) < (n : Int) := by omega
        have hk2 : (j : Int) < 10 := by omega
        have HP : Hid (bs = bs.take j ++ bs.getD j 0 :: bs.drop (j + 1)) := by
          show _ = _
          rw [List.getD_eq_getElem?_getD, List.getElem?_eq_getElem (by have := unhide HN; omega), Option.getD_some, ← List.drop_eq_getElem_cons, List.take_append_drop]
        have HSU : Hid (bs.take (j + 1) = bs.take j ++ [bs.getD j 0]) := by
          show _ = _
          rw [List.getD_eq_getElem?_getD, List.getElem?_eq_getElem (by have := unhide HN; omega), List.take_succ_eq_append_getElem (by have := unhide HN; omega)]
          rfl
        have HL1 := hide hl1
        have HU := hide hU
        have HV := hide hV
        clear hU hV hUV hH hl1 hVs
        generalize hyy : bs.getD j 0 = y at *
        have hyb := y.toNat_lt
        obtain ⟨x, hx⟩ : ∃ x, x = y.toNat % 128 := ⟨_, rfl⟩
        have hxc : ((y.toNat : Nat) : Int) % 128 = ((x : Nat) : Int) := by omega
        have hx128 : x < 128 := by omega
        have HX := hide hx
        clear hx hyy
        by_cases hbig : j = 9 ∧ 1 < x
        · obtain ⟨hj9, h1x⟩ := hbig
          have hx1 : decide (((x : Nat) : Int) > 1) = true := decide_eq_true (by omega)
          have hb9 : (((j : Nat) : Int) == 9) = true := by rw [beq_iff_eq]; omega
          have HJ9 := hide hj9
          have H1X := hide h1x
          clear hj9 h1x
          go_wp2_with fail
          go_ret2
          refine ⟨.inr ⟨?_, rfl⟩, rfl⟩
          by_cases hy : y.toNat < 128
          · rw [unhide HP]
            exact noNum_big (unhide HHI) (by have := unhide HX; have := unhide H1X; omega) hy (by rw [unhide HL1]; exact unhide HJ9)
          · refine noNum_highs (k := j + 1) ?_ (.inl (by have := unhide HJ9; omega))
            rw [unhide HSU]
            intro z hz
            rcases List.mem_append.1 hz with h1 | h1
            · exact unhide HHI z h1
            · rw [List.mem_singleton.1 h1]; omega
        · have HPX : Hid (x * V ≤ 9223372036854775808 * 127 ∧ U + x * V < 18446744073709551616) := by
            show _ ∧ _
            by_cases h8 : j ≤ 8
            · have h1 := hV8 h8
              have h2 : x * V ≤ 127 * V := Nat.mul_le_mul_right _ (by omega)
              omega
            · have h9 : j = 9 := by omega
              have h1 : x ≤ 1 := by omega
              have h2 : x * V ≤ 1 * V := Nat.mul_le_mul_right _ h1
              omega
          obtain ⟨P, hP⟩ : ∃ P, P = x * V := ⟨_, rfl⟩
          have hpi : ((x : Nat) : Int) * ((V : Nat) : Int) = ((P : Nat) : Int) := by rw [hP, Int.natCast_mul]
          rw [← hP] at HPX
          have hp1 := (unhide HPX).1
          have hp2 := (unhide HPX).2
          have HPD := hide hP
          clear hP
          obtain ⟨S, hS⟩ : ∃ S, S = U + P := ⟨_, rfl⟩
          have hsi : ((U : Nat) : Int) + ((P : Nat) : Int) = ((S : Nat) : Int) := by omega
          have hs64 : S < 18446744073709551616 := by omega
          have HUP : Hid (S = val (bs.take j ++ [y])) := by
            show _ = _
            rw [hS, val_append, unhide HL1, ← unhide HU, ← unhide HV]
            simp only [val]
            rw [Nat.mul_zero, Nat.add_zero, ← unhide HX, unhide HPD, Nat.mul_comm]
          obtain ⟨V2, hV2, hwV⟩ : ∃ V2 : Nat, (j ≤ 8 → V2 = 128 ^ (j + 1)) ∧ IntKind.u64.wrap (((V : Nat) : Int) * 128) = ((V2 : Nat) : Int) := by
            refine ⟨V * 128 % 18446744073709551616, fun h8 => ?_, ?_⟩
            · have := hV8 h8
              rw [unhide HVS]
              omega
            · rw [IntKind.wrap_u64]; omega
          have HV2 := hide hV2
          have HBIG := hide hbig
          have HS64 := hide hs64
          have hor : (j = 9 ∧ (((j : Nat) : Int) == 9) = true ∧ decide (((x : Nat) : Int) > 1) = false) ∨ (¬ j = 9 ∧ (((j : Nat) : Int) == 9) = false) := by
            by_cases h : j = 9
            · exact .inl ⟨h, by rw [beq_iff_eq]; omega, decide_eq_false (by omega)⟩
            · exact .inr ⟨h, by rw [beq_eq_false_iff_ne]; omega⟩
          have hpu : P < 18446744073709551616 := by omega
          clear hbig hV2 hS hp1 hp2 hUV2 hVm hV8
          have hwj : IntKind.i64.wrap (((j : Nat) : Int) + 1) = ((j : Nat) : Int) + 1 := by rw [IntKind.wrap_i64]; omega
          rcases hor with ⟨hj9, h9i, hx1⟩ | ⟨hj9, h9i⟩
          all_goals (
            have HJ9 := hide hj9
            clear hj9
            by_cases hy : y.toNat < 128
            · have hyi : ¬ ((y.toNat : Nat) : Int) ≥ 128 := by omega
              by_cases hz : x = 0 ∧ 0 < j
              · have hz1 : (((x : Nat) : Int) == 0) = true := by rw [beq_iff_eq]; omega
                have hz2 : decide (((j : Nat) : Int) > 0) = true := decide_eq_true (by omega)
                have hz2n : decide (0 < j) = true := decide_eq_true (by omega)
                have HZ := hide hz
                clear hz
                go_wp2_with fail
                go_ret2
                refine ⟨.inr ⟨?_, rfl⟩, rfl⟩
                rw [unhide HP]
                refine noNum_zero (unhide HHI) (by have := unhide HX; have := (unhide HZ).1; omega) (fun e => ?_)
                have h1 := unhide HL1
                rw [e] at h1
                have := (unhide HZ).2
                simp at h1
                omega
              · have hzo : ((((x : Nat) : Int) == 0) = true ∧ decide (((j : Nat) : Int) > 0) = false ∧ decide (0 < j) = false) ∨ (((x : Nat) : Int) == 0) = false := by
                  by_cases h : x = 0
                  · exact .inl ⟨by rw [beq_iff_eq]; omega, decide_eq_false (by omega), decide_eq_false (by omega)⟩
                  · exact .inr (by rw [beq_eq_false_iff_ne]; omega)
                have HZ := hide hz
                clear hz
                have HRD : Hid (Reads bs (unz S) (j + 1)) := by
                  have h1 := Reads.made (p := bs.take j) (y := y) (r := bs.drop (j + 1)) (unhide HHI) hy (by
                    by_cases h : x = 0
                    · have hj0 : j = 0 := Nat.eq_zero_of_not_pos fun h' => unhide HZ ⟨h, h'⟩
                      exact .inl (by rw [hj0]; rfl)
                    · exact .inr (by have := unhide HX; omega)) (by
                    rw [unhide HL1]
                    by_cases h : j = 9
                    · refine .inr ⟨h, ?_⟩
                      have h2 : ¬ 1 < x := fun h' => unhide HBIG ⟨h, h'⟩
                      have := unhide HX
                      omega
                    · exact .inl (by omega))
                  rw [← unhide HP, ← unhide HUP, unhide HL1] at h1
                  exact h1
                rcases hzo with ⟨hz1, hz2, hz2n⟩ | hz1 <;> by_cases hodd : S % 2 = 0
                all_goals (
                  first
                  | (have ho : ((S : Nat) : Int) % 2 = 0 := by omega
                     have HUZ : Hid (unz S = ((S / 2 : Nat) : Int)) := by show _ = _; unfold unz; rw [if_neg (by omega)])
                  | (have ho : ¬ ((S : Nat) : Int) % 2 = 0 := by omega
                     have HUZ : Hid (unz S = -((S / 2 : Nat) : Int) - 1) := by show _ = _; unfold unz; rw [if_pos (by omega)])
                  clear hodd
                  go_wp2_with fail
                  go_ret2
                  refine ⟨.inl ⟨_, _, unhide HRD, ?_⟩, rfl⟩
                  rw [unhide HUZ]
                  simp)
            · have hyi : ((y.toNat : Nat) : Int) ≥ 128 := by omega
              go_wp2_with fail
              refine ⟨⟨j + 1, S, V2, by omega, by omega, by go_num, rfl, rfl, ?_, fun h8 => ⟨?_, unhide HV2 (by omega)⟩, trivial⟩, by simp [intOf]; omega⟩
              · rw [unhide HSU]
                intro z hz
                rcases List.mem_append.1 hz with h1 | h1
                · exact unhide HHI z h1
                · rw [List.mem_singleton.1 h1]; omega
              · rw [unhide HSU]; exact unhide HUP)
      · have hj' : j = 10 := by omega
        have hk2 : ¬ ((j : Nat) : Int) < 10 := by omega
        have hk1 : ((j : Nat) : Int) < ((n : Nat) : Int) := by omega
        have HJ := hide hj'
        clear hj' hUV h9 hlt
        go_wp2_with fail
        go_ret2
        exact ⟨.inr ⟨noNum_highs (unhide HHI) (.inl (unhide HJ)), rfl⟩, rfl⟩
    · have e : j = n := by omega
      have hk1 : ¬ ((j : Nat) : Int) < ((n : Nat) : Int) := by omega
      have HE := hide e
      clear e hUV hlt
      go_wp2_with fail
      go_ret2
      exact ⟨.inr ⟨noNum_highs (unhide HHI) (.inr (by have := unhide HE; have := unhide HN; omega)), rfl⟩, rfl⟩
end Go.Proofs.Ytifnjdplbdpelaa
