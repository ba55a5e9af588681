/- The document's heads (foremanref05): Right, numbers. No statement of the seat is proved here. -/
import Derived.Test.YtoabpjdpdcpdlaaGenOwn
import Derived.Test.YtoabpjdpdcpdlaaHeadMath
namespace Go.Proofs.Ytoabpjdpdcpdlaa
open Go.RowKit

/-- A head as a value. -/
def HeadD.val (h : HeadD) : Value := .agg #[.int .u64 ((h.s : Nat) : Int), .int .u64 ((h.e : Nat) : Int), .int .u8 ((h.l : Nat) : Int)]

set_option maxHeartbeats 2000000 in
theorem refRight_any (s e l : Nat) (w : World) : Calls Try.prog 18 #[.agg #[.int .u64 ((s : Nat) : Int), .int .u64 ((e : Nat) : Int), .int .u8 ((l : Nat) : Int)]] w fun e' w' => e' = .returned (.bool (HeadD.mk s e l).right) ∧ Below w.heap.size w w' := by
  have hb := (Below.refl _ w).alloc (Nat.le_refl _) (.cells #[.int .u64 ((s : Nat) : Int), .int .u64 ((e : Nat) : Int), .int .u8 ((l : Nat) : Int)] 24)
  have HB := hide hb
  have e1 : ((s : Int) != 0) = (s != 0) := by rw [Bool.eq_iff_iff, bne_iff_ne, bne_iff_ne]; omega
  have e2 : ((l : Int) == 0) = (l == 0) := by rw [Bool.eq_iff_iff, beq_iff_eq, beq_iff_eq]; omega
  have e3 : ((l : Int) == 1) = (l == 1) := by rw [Bool.eq_iff_iff, beq_iff_eq, beq_iff_eq]; omega
  have hR : (HeadD.mk s e l).right = (((s : Int) != 0) && (((l : Int) == 0) || ((l : Int) == 1))) := by
    rw [e1, e2, e3]
    rfl
  rw [hR]
  clear hb hR e1 e2 e3
  by_cases h0 : s = 0
  · have g : ((s : Int) != 0) = false := by rw [h0]; rfl
    rw [g]
    clear h0
    go_enter Try.func18, Try.ntmps18
    go_wp2
    go_ret
    exact ⟨rfl, unhide HB⟩
  · have g : ((s : Int) != 0) = true := bne_iff_ne.2 (by omega)
    rw [g]
    clear h0
    by_cases h1 : l = 0
    · have g1 : ((l : Int) == 0) = true := beq_iff_eq.2 (by omega)
      rw [g1]
      clear h1
      go_enter Try.func18, Try.ntmps18
      go_wp2
      go_ret
      exact ⟨rfl, unhide HB⟩
    · have g1 : ((l : Int) == 0) = false := beq_eq_false_iff_ne.2 (by omega)
      rw [g1]
      clear h1
      go_enter Try.func18, Try.ntmps18
      go_wp2
      go_ret
      exact ⟨by simp, unhide HB⟩

theorem eight_take (n j : Nat) (hj : j < 8) : (eight n).take (j + 1) = (eight n).take j ++ [UInt8.ofNat (n / 256 ^ j % 256)] := by
  have hl : j < (eight n).length := by rw [eight_len]; exact hj
  rw [List.take_succ_eq_append_getElem hl]
  congr 2
  simp [eight]

set_option maxRecDepth 100000 in
set_option maxHeartbeats 2000000 in
theorem refEight_any (n : Nat) (hn : n < 18446744073709551616) (w : World) : Calls Try.prog 34 #[.int .u64 ((n : Nat) : Int)] w fun e w' => ∃ r, e = .returned r ∧ FreshO w w' r (eight n) := by
  obtain ⟨ti, hti, hz0, hz1, hz2⟩ := infoByte
  go_enter Try.func34, Try.ntmps34
  go_wp2_with fail
  go_loopw [0, 3, 4] (fun x v i W => ∃ (j y : Nat), j ≤ 8 ∧ i = .int .i64 j ∧ x = .int .u64 ((y : Nat) : Int) ∧ y = n / 256 ^ j ∧ Own w v ((eight n).take j) W) (fun _ _ i _ => 8 - (intOf i).toNat)
  case atStart => exact ⟨0, n, by omega, rfl, rfl, by simp, Own.start w⟩
  case round =>
    obtain ⟨j, y, hj, rfl, rfl, hy, hO⟩ := hrel
    have HO := hide hO
    have hyn : y < 18446744073709551616 := by rw [hy]; exact Nat.lt_of_le_of_lt (Nat.div_le_self _ _) hn
    by_cases hlt : j < 8
    · obtain ⟨z, hz⟩ : ∃ z, z = UInt8.ofNat (y % 256) := ⟨_, rfl⟩
      have hzn : (y : Int) % 256 = ((z.toNat : Nat) : Int) := by rw [hz, UInt8.toNat_ofNat']; omega
      have hzl := z.toNat_lt
      have hzw : IntKind.u8.wrap ((z.toNat : Nat) : Int) = ((z.toNat : Nat) : Int) := by rw [IntKind.wrap_u8']; omega
      have hzw2 : ((z.toNat : Nat) : Int) % 256 = ((z.toNat : Nat) : Int) := by omega
      have HT : Hid ((eight n).take (j + 1) = (eight n).take j ++ [z]) := by show _ = _; rw [eight_take n j hlt, ← hy, hz]
      have HY : Hid (y / 256 = n / 256 ^ (j + 1)) := by show _ = _; rw [hy, Nat.pow_succ, Nat.div_div_eq_div_mul]
      have HL : Hid (((eight n).take j).length ≤ 8) := by show _ ≤ 8; rw [List.length_take, eight_len]; omega
      have HU := hide (bytes_one wr z)
      have HO2 := hide ((unhide HO).alloc (.cells #[.int .u8 (z.toNat : Nat)] 5))
      clear hO hy hz HO
      go_wp2_with (at_builtin; refine wpList_append_bytes _ rfl _ _ 25 rfl 5 ti (.int .u8 0) Try.underlying25 hti hz0 hz1 hz2 rfl _ ((eight n).take j) rfl (unhide HO2).own _ [z] rfl (unhide HU) (by have := unhide HL; simp; omega) ?_)
      rintro v' w2 r1 r2 r3
      have HN : Hid (Own w v' ((eight n).take (j + 1)) w2) := (unhide HO2).grown (by rw [unhide HT]; simpa using r1) r2 (by simpa using r3)
      clear r1 r2 r3 HO2 HU
      go_wp2_with fail
      exact ⟨⟨j + 1, y / 256, by omega, by go_num, by congr 1, unhide HY, unhide HN⟩, by simp [intOf]; omega⟩
    · have e : j = 8 := by omega
      subst e
      have HF : Hid ((eight n).take 8 = eight n) := List.take_of_length_le (by rw [eight_len]; exact Nat.le_refl _)
      rw [unhide HF] at HO
      go_wp2_with fail
      go_ret
      exact ⟨_, rfl, (unhide HO).fresh⟩

theorem le_drop (bs : List UInt8) (j : Nat) (h : j < bs.length) : le (bs.drop j) = (bs.getD j 0).toNat + 256 * le (bs.drop (j + 1)) := by
  rw [List.drop_eq_getElem_cons h, List.getD_eq_getElem?_getD, List.getElem?_eq_getElem h]
  rfl

/-- A byte of a slice, where its place is. -/
theorem Bytes.spot {w : World} {a : Option Addr} {n c : Nat} {bs : List UInt8} (h : Bytes w (.slice a n c) bs) (hn : 0 < n) : ∃ b o, a = some ⟨b, o, none⟩ ∧ ∀ i, i < n → w.cell? ⟨b, o + i, none⟩ = some (.int .u8 ((bs.getD i 0).toNat : Nat)) := by
  obtain ⟨hl, _⟩ := bytes_len h
  obtain ⟨ad, rfl, h0⟩ := h.at (i := 0) hn hl
  obtain ⟨b, o, spot⟩ := ad
  have hspot : spot = none := by simpa [Addr.add] using World.cell?_spot h0
  subst hspot
  refine ⟨b, o, rfl, fun i hi => ?_⟩
  obtain ⟨_, e, h1⟩ := h.at hi hl
  cases e
  rwa [Addr.add_mid] at h1

set_option maxRecDepth 100000 in
set_option maxHeartbeats 2000000 in
theorem refNumber8_any (a : Option Addr) (c : Nat) (bs : List UInt8) (w : World) (h : Bytes w (.slice a 8 c) bs) : Calls Try.prog 36 #[.slice a 8 c] w fun e w' => e = .returned (.int .u64 ((le bs : Nat) : Int)) ∧ w' = w := by
  have hl := (bytes_len h).1
  obtain ⟨b, o, rfl, hcell⟩ := h.spot (by omega)
  have HCE := hide hcell
  have HL := hide hl
  clear h hcell hl
  go_enter Try.func36, Try.ntmps36
  go_wp2_with fail
  go_loopw [3, 4] (fun x i W => ∃ j : Nat, j ≤ 8 ∧ i = .int .i64 ((j : Int) - 1) ∧ x = .int .u64 ((le (bs.drop j) : Nat) : Int) ∧ W = w) (fun _ i _ => (intOf i + 1).toNat)
  case atStart => exact ⟨8, by omega, rfl, by rw [List.drop_of_length_le (by have := unhide HL; omega)]; rfl, rfl⟩
  case round =>
    obtain ⟨j, hj, rfl, rfl, rfl⟩ := hrel
    by_cases hlt : 0 < j
    · obtain ⟨k, rfl⟩ : ∃ k, j = k + 1 := ⟨j - 1, by omega⟩
      have hc := unhide HCE k (by omega)
      have HS := hide (le_drop bs k (by have := unhide HL; omega))
      have hlt8 : le (bs.drop k) < 18446744073709551616 := by
        have h1 := le_lt (bs.drop k)
        have h2 : 2 ^ (8 * (bs.drop k).length) ≤ 2 ^ 64 := Nat.pow_le_pow_right (by decide) (by rw [List.length_drop]; have := unhide HL; omega)
        omega
      rw [unhide HS] at hlt8
      have e1 : ((k + 1 : Nat) : Int) - 1 = ((k : Nat) : Int) := by omega
      rw [e1]
      have hy := (bs.getD k 0).toNat_lt
      generalize (bs.getD k 0).toNat = y at *
      generalize le (bs.drop (k + 1)) = x at *
      have k0 : (0 : Int) ≤ (k : Int) := by omega
      have k1 : (k : Int) ≥ 0 := by omega
      go_wp2_with fail
      exact ⟨⟨k, by omega, rfl, by rw [unhide HS]; congr 1; omega, trivial⟩, by simp [intOf]⟩
    · have e0 : j = 0 := by omega
      subst e0
      have hneg : ¬ (((0 : Nat) : Int) - 1) ≥ 0 := by omega
      go_wp2_with fail
      go_ret
      exact ⟨rfl, rfl⟩
end Go.Proofs.Ytoabpjdpdcpdlaa
