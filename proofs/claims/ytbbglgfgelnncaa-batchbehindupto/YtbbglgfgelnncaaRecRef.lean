/- The document's records (foremanref03): its numbers and Put. No statement of the seat is proved here. -/
import Derived.Test.YtbbglgfgelnncaaLowA
import Derived.Test.YtbbglgfgelnncaaCrcRef
namespace Go.Proofs.Ytbbglgfgelnncaa
open Go.RowKit

theorem four_take (n j : Nat) (hj : j < 4) : (four n).take (j + 1) = (four n).take j ++ [UInt8.ofNat (n / 256 ^ j % 256)] := by
  rcases (show j = 0 ∨ j = 1 ∨ j = 2 ∨ j = 3 by omega) with rfl | rfl | rfl | rfl
  · show [UInt8.ofNat (n % 256)] = [UInt8.ofNat (n / 1 % 256)]
    rw [Nat.div_one]
  all_goals rfl

set_option maxRecDepth 100000 in
set_option maxHeartbeats 2000000 in
theorem refFour_any (n : Nat) (hn : n < 4294967296) (w : World) : Calls Try.prog 29 #[.int .i64 (n : Nat)] w fun e w' => ∃ r, e = .returned r ∧ FreshO w w' r (four n) := by
  obtain ⟨ti, hti, hz0, hz1, hz2⟩ := infoByte
  go_enter Try.func29, Try.ntmps29
  go_wp2_with fail
  go_loopw [0, 3, 4] (fun x v i W => ∃ (j y : Nat), j ≤ 4 ∧ i = .int .i64 j ∧ x = .int .i64 (y : Nat) ∧ y = n / 256 ^ j ∧ Own w v ((four n).take j) W) (fun _ _ i _ => 4 - (intOf i).toNat)
  case atStart => exact ⟨0, n, by omega, rfl, rfl, by simp, Own.start w⟩
  case round =>
    obtain ⟨j, y, hj, rfl, rfl, hy, hO⟩ := hrel
    have HO := hide hO
    have hyn : y < 4294967296 := by rw [hy]; exact Nat.lt_of_le_of_lt (Nat.div_le_self _ _) hn
    by_cases hlt : j < 4
    · obtain ⟨z, hz⟩ : ∃ z, z = UInt8.ofNat (y % 256) := ⟨_, rfl⟩
      have hzn : (y : Int) % 256 = ((z.toNat : Nat) : Int) := by rw [hz, u8_of _ (by omega)]; omega
      have hzl := z.toNat_lt
      have hzw : IntKind.u8.wrap ((z.toNat : Nat) : Int) = ((z.toNat : Nat) : Int) := by rw [IntKind.wrap_u8']; omega
      have hzw2 : ((z.toNat : Nat) : Int) % 256 = ((z.toNat : Nat) : Int) := by omega
      have HT : Hid ((four n).take (j + 1) = (four n).take j ++ [z]) := by show _ = _; rw [four_take n j hlt, ← hy, hz]
      have HY : Hid (y / 256 = n / 256 ^ (j + 1)) := by show _ = _; rw [hy, Nat.pow_succ, Nat.div_div_eq_div_mul]
      have HL : Hid (((four n).take j).length ≤ 4) := by show _ ≤ 4; rw [List.length_take, four_len]; omega
      have HU := hide (bytes_one wr z)
      have HO2 := hide ((unhide HO).alloc (.cells #[.int .u8 (z.toNat : Nat)] 5))
      clear hO hy hz HO
      go_wp2_with (at_builtin; refine wpList_append_bytes _ rfl _ _ 23 rfl 5 ti (.int .u8 0) Try.underlying23 hti hz0 hz1 hz2 rfl _ ((four n).take j) rfl (unhide HO2).own _ [z] rfl (unhide HU) (by have := unhide HL; simp; omega) ?_)
      rintro v' w2 r1 r2 r3
      have HN : Hid (Own w v' ((four n).take (j + 1)) w2) := (unhide HO2).grown (by rw [unhide HT]; simpa using r1) r2 (by simpa using r3)
      clear r1 r2 r3 HO2 HU
      go_wp2_with fail
      exact ⟨⟨j + 1, y / 256, by omega, by go_num, by congr 1, unhide HY, unhide HN⟩, by simp [intOf]; omega⟩
    · have e : j = 4 := by omega
      subst e
      go_wp2_with fail
      go_ret
      exact ⟨_, rfl, (unhide HO).fresh⟩

/-- Four bytes, read. -/
theorem four_at {w : World} {a : Option Addr} {c : Nat} {bs : List UInt8} (h : Bytes w (.slice a 4 c) bs) : ∃ b o, a = some ⟨b, o, none⟩ ∧ w.cell? ⟨b, o, none⟩ = some (.int .u8 ((bs.getD 0 0).toNat : Nat)) ∧ w.cell? ⟨b, o + 1, none⟩ = some (.int .u8 ((bs.getD 1 0).toNat : Nat)) ∧ w.cell? ⟨b, o + 2, none⟩ = some (.int .u8 ((bs.getD 2 0).toNat : Nat)) ∧ w.cell? ⟨b, o + 3, none⟩ = some (.int .u8 ((bs.getD 3 0).toNat : Nat)) := by
  obtain ⟨hl, _⟩ := bytes_len h
  obtain ⟨ad, rfl, h0⟩ := h.at (i := 0) (by omega) hl
  obtain ⟨_, e1, h1⟩ := h.at (i := 1) (by omega) hl
  obtain ⟨_, e2, h2⟩ := h.at (i := 2) (by omega) hl
  obtain ⟨_, e3, h3⟩ := h.at (i := 3) (by omega) hl
  cases e1; cases e2; cases e3
  obtain ⟨b, o, spot⟩ := ad
  have hspot : spot = none := by simpa [Addr.add] using World.cell?_spot h0
  subst hspot
  rw [Addr.add_mid] at h0 h1 h2 h3
  exact ⟨b, o, rfl, h0, h1, h2, h3⟩
theorem le_four_bytes (bs : List UInt8) (h : bs.length = 4) : le bs = (bs.getD 0 0).toNat + 256 * (bs.getD 1 0).toNat + 65536 * (bs.getD 2 0).toNat + 16777216 * (bs.getD 3 0).toNat := by
  match bs, h with
  | [a, b, c, d], _ =>
    show a.toNat + 256 * (b.toNat + 256 * (c.toNat + 256 * (d.toNat + 256 * 0))) = a.toNat + 256 * b.toNat + 65536 * c.toNat + 16777216 * d.toNat
    omega

set_option maxRecDepth 100000 in
set_option maxHeartbeats 2000000 in
theorem refNumber_any (a : Option Addr) (c : Nat) (bs : List UInt8) (w : World) (h : Bytes w (.slice a 4 c) bs) : Calls Try.prog 50 #[.slice a 4 c] w fun e w' => e = .returned (.int .i64 (le bs : Nat)) ∧ Below w.heap.size w w' := by
  obtain ⟨b, o, rfl, h0, h1, h2, h3⟩ := four_at h
  have hle := le_four_bytes bs (bytes_len h).1
  have l0 := (bs.getD 0 0).toNat_lt
  have l1 := (bs.getD 1 0).toNat_lt
  have l2 := (bs.getD 2 0).toNat_lt
  have l3 := (bs.getD 3 0).toNat_lt
  generalize (bs.getD 0 0).toNat = x0 at *
  generalize (bs.getD 1 0).toNat = x1 at *
  generalize (bs.getD 2 0).toNat = x2 at *
  generalize (bs.getD 3 0).toNat = x3 at *
  have v0 : IntKind.i64.wrap (x0 : Int) = (x0 : Int) := by rw [IntKind.wrap_i64]; omega
  have v1 : IntKind.i64.wrap (x1 : Int) = (x1 : Int) := by rw [IntKind.wrap_i64]; omega
  have v2 : IntKind.i64.wrap (x2 : Int) = (x2 : Int) := by rw [IntKind.wrap_i64]; omega
  have v3 : IntKind.i64.wrap (x3 : Int) = (x3 : Int) := by rw [IntKind.wrap_i64]; omega
  have w1 : IntKind.i64.wrap (256 * (x1 : Int)) = 256 * (x1 : Int) := by rw [IntKind.wrap_i64]; omega
  have w2 : IntKind.i64.wrap ((x0 : Int) + 256 * (x1 : Int)) = (x0 : Int) + 256 * (x1 : Int) := by rw [IntKind.wrap_i64]; omega
  have w3 : IntKind.i64.wrap (65536 * (x2 : Int)) = 65536 * (x2 : Int) := by rw [IntKind.wrap_i64]; omega
  have w4 : IntKind.i64.wrap ((x0 : Int) + 256 * (x1 : Int) + 65536 * (x2 : Int)) = (x0 : Int) + 256 * (x1 : Int) + 65536 * (x2 : Int) := by rw [IntKind.wrap_i64]; omega
  have w5 : IntKind.i64.wrap (16777216 * (x3 : Int)) = 16777216 * (x3 : Int) := by rw [IntKind.wrap_i64]; omega
  have w6 : IntKind.i64.wrap ((x0 : Int) + 256 * (x1 : Int) + 65536 * (x2 : Int) + 16777216 * (x3 : Int)) = ((le bs : Nat) : Int) := by rw [IntKind.wrap_i64, hle]; omega
  clear hle h l0 l1 l2 l3
  generalize le bs = res at *
  go_enter Try.func50, Try.ntmps50
  go_wp2_with fail
  go_quiet (fail)
  go_wp2_with fail
  go_ret
  exact ⟨rfl, below_drewN w _⟩
end Go.Proofs.Ytbbglgfgelnncaa
