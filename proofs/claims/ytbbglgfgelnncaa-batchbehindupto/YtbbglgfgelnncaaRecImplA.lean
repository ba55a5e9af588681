/- What the small functions of package rec answer. No statement of the seat is proved here. -/
import Derived.Test.YtbbglgfgelnncaaGenCopy
namespace Go.Proofs.Ytbbglgfgelnncaa
open Go.RowKit

theorem isKind_any (k : Nat) (w : World) : Calls Try.prog 37 #[.int .u8 (k : Nat)] w fun e w' => e = .returned (.bool (decide (1 ≤ k ∧ k ≤ 2))) ∧ w' = w := by
  by_cases h1 : 1 ≤ k
  · by_cases h2 : k ≤ 2
    · have g1 : ((k : Nat) : Int) ≥ 1 := by omega
      have g2 : ((k : Nat) : Int) ≤ 2 := by omega
      rw [decide_eq_true ⟨h1, h2⟩]
      clear h1 h2
      go_enter Try.func37, Try.ntmps37
      go_wp2
      go_ret
      exact ⟨rfl, rfl⟩
    · have g1 : ((k : Nat) : Int) ≥ 1 := by omega
      have g2 : ¬ ((k : Nat) : Int) ≤ 2 := by omega
      rw [decide_eq_false fun h => h2 h.2]
      clear h1 h2
      go_enter Try.func37, Try.ntmps37
      go_wp2
      go_ret
      exact ⟨rfl, rfl⟩
  · have g1 : ¬ ((k : Nat) : Int) ≥ 1 := by omega
    rw [decide_eq_false fun h => h1 h.1]
    clear h1
    go_enter Try.func37, Try.ntmps37
    go_wp2
    go_ret
    exact ⟨rfl, rfl⟩

theorem long_any (n : Int) (w : World) : Calls Try.prog 30 #[.int .i64 n] w fun e w' => e = .returned (.int .i64 (if 0 ≤ n ∧ n ≤ 4096 then n + 9 else 0)) ∧ w' = w := by
  by_cases h1 : n < 0
  · rw [if_neg (by omega)]
    go_enter Try.func30, Try.ntmps30
    go_wp2
    go_ret
    exact ⟨rfl, rfl⟩
  · by_cases h2 : n > 4096
    · rw [if_neg (by omega)]
      go_enter Try.func30, Try.ntmps30
      go_wp2
      go_ret
      exact ⟨rfl, rfl⟩
    · rw [if_pos (by omega)]
      have e : IntKind.i64.wrap (9 + n) = n + 9 := by rw [IntKind.wrap_i64]; omega
      have e2 : 9 + n = n + 9 := by omega
      go_enter Try.func30, Try.ntmps30
      go_wp2
      go_ret
      exact ⟨ret_int (by omega), rfl⟩

theorem or_add (x y k : Nat) (h : x < 2 ^ k) : x ||| (2 ^ k * y) = x + 2 ^ k * y := by
  rw [Nat.or_comm, ← Nat.two_pow_add_eq_or_of_lt h, Nat.add_comm]

/-- The first bytes' number. -/
theorem le_take_succ (bs : List UInt8) (j : Nat) (h : j < bs.length) : le (bs.take (j + 1)) = le (bs.take j) + 2 ^ (8 * j) * (bs.getD j 0).toNat := by
  induction j generalizing bs with
  | zero =>
    match bs, h with
    | b :: bs, _ => simp [le]
  | succ j ih =>
    match bs, h with
    | b :: bs, h =>
      have h2 : j < bs.length := by simpa using h
      have e := ih bs h2
      show b.toNat + 256 * le (bs.take (j + 1)) = b.toNat + 256 * le (bs.take j) + 2 ^ (8 * (j + 1)) * (bs.getD j 0).toNat
      rw [e, Nat.mul_add, show 8 * (j + 1) = 8 + 8 * j by omega, Nat.pow_add, Nat.mul_assoc, Nat.add_assoc]

theorem number_step (bs : List UInt8) (j : Nat) (h : j < bs.length) (hj : j < 4) : bits .or .u32 ((le (bs.take j) : Nat) : Int) ((((bs.getD j 0).toNat * 2 ^ (8 * j) : Nat) : Int)) = ((le (bs.take (j + 1)) : Nat) : Int) := by
  have h1 := le_lt (bs.take j)
  have hl : (bs.take j).length = j := by rw [List.length_take]; omega
  rw [hl] at h1
  have hb := (bs.getD j 0).toNat_lt
  have h2 : le (bs.take j) < 4294967296 := Nat.lt_of_lt_of_le h1 (by rw [show 4294967296 = 2 ^ 32 by decide]; exact Nat.pow_le_pow_right (by decide) (by omega))
  have h3 : (bs.getD j 0).toNat * 2 ^ (8 * j) < 4294967296 := by
    have : (bs.getD j 0).toNat * 2 ^ (8 * j) < 2 ^ 8 * 2 ^ (8 * j) := Nat.mul_lt_mul_of_pos_right (by omega) (Nat.two_pow_pos _)
    rw [← Nat.pow_add] at this
    exact Nat.lt_of_lt_of_le this (by rw [show 4294967296 = 2 ^ 32 by decide]; exact Nat.pow_le_pow_right (by decide) (by omega))
  rw [le_take_succ bs j h]
  have := u32_or_nat (le (bs.take j)) ((bs.getD j 0).toNat * 2 ^ (8 * j)) h2 h3
  rw [this, Nat.mul_comm (bs.getD j 0).toNat, or_add _ _ _ h1]

set_option maxRecDepth 100000 in
set_option maxHeartbeats 2000000 in
theorem number_any (a : Option Addr) (n c : Nat) (bs : List UInt8) (w : World) (h : Bytes w (.slice a n c) bs) (hn : 4 ≤ n) : Calls Try.prog 43 #[.slice a n c] w fun e w' => e = .returned (.int .u32 (le (bs.take 4) : Nat)) ∧ w' = w := by
  have hl := (bytes_len h).1
  have HL := hide hl
  obtain ⟨bb, o, rfl⟩ := byte_spot h (by omega)
  have HH := hide h
  clear h hl
  go_enter Try.func43, Try.ntmps43
  go_wp2_with fail
  go_loopw [3, 5] (fun x i W => ∃ j : Nat, j ≤ 4 ∧ i = .int .i64 j ∧ x = .int .u32 ((le (bs.take j) : Nat) : Int) ∧ W = w) (fun _ i _ => 4 - (intOf i).toNat)
  case atStart => exact ⟨0, by omega, rfl, by simp [le], rfl⟩
  case round =>
    obtain ⟨j, hj, rfl, rfl, rfl⟩ := hrel
    by_cases hlt : j < 4
    · have hc := byte_at (unhide HH) (i := j) (by omega)
      have HS := hide (number_step bs j (by have := unhide HL; omega) hlt)
      have hy := (bs.getD j 0).toNat_lt
      generalize (bs.getD j 0).toNat = y at *
      generalize le (bs.take j) = x at *
      rcases (show j = 0 ∨ j = 1 ∨ j = 2 ∨ j = 3 by omega) with rfl | rfl | rfl | rfl
      · rw [Nat.add_zero] at hc
        go_wp2_with fail
        exact ⟨⟨1, by omega, rfl, by rw [← unhide HS]; simp, trivial⟩, by simp [intOf]⟩
      · go_wp2_with fail
        exact ⟨⟨2, by omega, rfl, by rw [← unhide HS]; simp, trivial⟩, by simp [intOf]⟩
      · go_wp2_with fail
        exact ⟨⟨3, by omega, rfl, by rw [← unhide HS]; simp, trivial⟩, by simp [intOf]⟩
      · go_wp2_with fail
        exact ⟨⟨4, by omega, rfl, by rw [← unhide HS]; simp, trivial⟩, by simp [intOf]⟩
    · have e : j = 4 := by omega
      subst e
      go_wp2_with fail
      go_ret
      exact ⟨rfl, rfl⟩

/-- A row with the first j bytes of a number from place o on. -/
def fourAt (bs : List UInt8) (o n : Nat) : Nat → List UInt8
  | 0 => bs
  | j + 1 => (fourAt bs o n j).set (o + j) (UInt8.ofNat (n / 256 ^ j % 256))
theorem fourAt_len (bs : List UInt8) (o n j : Nat) : (fourAt bs o n j).length = bs.length := by
  induction j with
  | zero => rfl
  | succ j ih => rw [fourAt, List.length_set, ih]

set_option maxRecDepth 100000 in
set_option maxHeartbeats 2000000 in
theorem putNumber_any {w0 w : World} {g N C : Nat} {bs : List UInt8} (h : Own w0 (.slice (some ⟨g, 0, none⟩) N C) bs w) (hl : bs.length = N) (o len cap S : Nat) (hS : S < 4294967296) (ho : o + 4 ≤ N) (hlen : 4 ≤ len) :
    Calls Try.prog 38 #[.slice (some ⟨g, o, none⟩) len cap, .int .u32 (S : Nat)] w fun e w' => e = .returned (.tuple #[]) ∧ Own w0 (.slice (some ⟨g, 0, none⟩) N C) (fourAt bs o S 4) w' := by
  have HO := hide h
  have HL := hide hl
  clear h hl
  go_enter Try.func38, Try.ntmps38
  go_wp2_with fail
  go_loopw [5] (fun i W => ∃ j : Nat, j ≤ 4 ∧ i = .int .i64 j ∧ Own w0 (.slice (some ⟨g, 0, none⟩) N C) (fourAt bs o S j) W) (fun i _ => 4 - (intOf i).toNat)
  case atStart => exact ⟨0, by omega, rfl, unhide HO⟩
  case round =>
    obtain ⟨j, hj, rfl, hO⟩ := hrel
    by_cases hlt : j < 4
    · obtain ⟨⟨x, hc⟩, hf, hp⟩ := hO.put ((fourAt_len bs o S j).trans (unhide HL)) (k := o + j) (by omega)
      have HP := hide hp
      clear hO hp
      rcases (show j = 0 ∨ j = 1 ∨ j = 2 ∨ j = 3 by omega) with rfl | rfl | rfl | rfl
      · rw [Nat.add_zero] at hc hf HP
        go_wp2_with fail
        have h2 := unhide HP (S / 256 ^ 0 % 256) (by omega)
        exact ⟨⟨1, by omega, rfl, by simpa [fourAt] using h2⟩, by simp [intOf]⟩
      · go_wp2_with fail
        have h2 := unhide HP (S / 256 ^ 1 % 256) (by omega)
        rw [show ((S / 256 ^ 1 % 256 : Nat) : Int) = (S : Int) / 256 % 256 by omega] at h2
        exact ⟨⟨2, by omega, rfl, h2⟩, by simp [intOf]⟩
      · go_wp2_with fail
        have h2 := unhide HP (S / 256 ^ 2 % 256) (by omega)
        rw [show ((S / 256 ^ 2 % 256 : Nat) : Int) = (S : Int) / 65536 % 256 by omega] at h2
        exact ⟨⟨3, by omega, rfl, h2⟩, by simp [intOf]⟩
      · go_wp2_with fail
        have h2 := unhide HP (S / 256 ^ 3 % 256) (by omega)
        rw [show ((S / 256 ^ 3 % 256 : Nat) : Int) = (S : Int) / 16777216 by omega] at h2
        exact ⟨⟨4, by omega, rfl, h2⟩, by simp [intOf]⟩
    · have e : j = 4 := by omega
      subst e
      go_wp2_with fail
      go_end0
      exact ⟨rfl, hO⟩

set_option maxHeartbeats 400000 in
theorem clone_any (u : Value) (bs : List UInt8) (w : World) (h : Bytes w u bs) (hl : bs.length ≤ 1048576) : Calls Try.prog 36 #[u] w fun e w' => ∃ a n c, e = .returned (.slice a n c) ∧ FreshO w w' (.slice a n c) bs := by
  rcases h with ⟨rfl, rfl⟩ | ⟨ad, c, rfl, h1, h2, h3⟩
  · have hq : ∀ W : World, (binOp .eql 23 (.slice none 0 0) (.slice none 0 0)).run Try.prog W = .ok (.bool true) W := fun W => run_eql_nil_slice W 23 5 none 0 0 0 0 Try.underlying23
    go_enter Try.func36, Try.ntmps36
    go_wp2
    go_ret
    exact ⟨none, 0, 0, rfl, ⟨.inl ⟨rfl, rfl⟩, fun k hk => (by cases hk), Below.refl _ w⟩, own_none _⟩
  · have h : Bytes w (.slice (some ad) bs.length c) bs := .inr ⟨ad, c, rfl, h1, h2, h3⟩
    obtain ⟨ti, hti, hz0, hz1, hz2⟩ := infoByte
    have HO := hide (own_nil w)
    have HU := hide (h.alloc (.cells #[] 5))
    have HL := hide hl
    generalize bs.length = n0 at *
    have hq : ∀ W : World, (binOp .eql 23 (.slice (some ad) n0 c) (.slice none 0 0)).run Try.prog W = .ok (.bool false) W := fun W => Lib.run_eql_slice_nil W 23 5 (some ad) n0 c 0 0 Try.underlying23
    clear h hl h1 h2 h3
    go_enter Try.func36, Try.ntmps36
    go_wp2_with (at_builtin; refine wpList_append_bytes _ rfl _ _ 23 rfl 5 ti (.int .u8 0) Try.underlying23 hti hz0 hz1 hz2 rfl _ [] rfl (unhide HO) _ bs rfl (unhide HU) (by have := unhide HL; have := (bytes_len (unhide HU)).1; simp only [List.length_nil]; omega) ?_)
    rintro v' w1 r1 r2 r3
    have r1 : w1.ownsRow 0 5 1 v' bs.length (bs.map bv) := by simpa using r1
    obtain ⟨hb, hv⟩ := grown_below ((Below.refl _ w).alloc (Nat.le_refl _) _) (fun k hk => by simp [Value.ownBlock] at hk; omega) r2 (r3.imp id fun ⟨k, e, hle⟩ => ⟨k, e, by simpa using hle⟩)
    have HF : Hid (FreshO w w1 v' bs) := ⟨⟨bytes_of_owns r1, fun k hk => ⟨hv k hk, (r1.lt k hk).2⟩, hb⟩, r1⟩
    clear r1 r2 r3 hb hv
    go_wp2
    go_ret
    obtain ⟨a', c', e', _⟩ := (unhide HF).1.1.form
    subst e'
    exact ⟨_, _, _, rfl, unhide HF⟩

/-- What toldLong answers. -/
def toldErr (b : List UInt8) : Int := if b.length < 9 then 32 else if 4096 < le ((b.drop 5).take 4) then 31 else if b.length < 9 + le ((b.drop 5).take 4) then 32 else 0
def toldLen (b : List UInt8) : Nat := if toldErr b = 0 then 9 + le ((b.drop 5).take 4) else 0

set_option maxHeartbeats 1000000 in
theorem toldLong_any (a : Option Addr) (n c : Nat) (b : List UInt8) (w : World) (h : Bytes w (.slice a n c) b) : Calls Try.prog 42 #[.slice a n c] w fun e w' => e = .returned (.tuple #[.int .i64 (toldLen b : Nat), .int .i64 (toldErr b)]) ∧ w' = w := by
  obtain ⟨hl, hnc⟩ := bytes_len h
  by_cases hn : n < 9
  · have e1 : toldErr b = 32 := by unfold toldErr; rw [if_pos (by omega)]
    have e2 : toldLen b = 0 := by unfold toldLen; rw [e1]; rfl
    rw [e1, e2]
    have g1 : (n : Int) < 9 := by omega
    clear h e1 e2 hl hn
    go_enter Try.func42, Try.ntmps42
    go_wp2_with fail
    go_ret2
    exact ⟨rfl, rfl⟩
  · have g1 : ¬ (n : Int) < 9 := by omega
    obtain ⟨s5, k5, B5, q5, q5'⟩ := slice_from (l := 5) h (by omega)
    replace q5 : ∀ W : World, (Instr.slice 23 (.slice a n c) (some (.int .i64 5)) none none).run Try.prog W = .ok (.slice s5 (n - 5) k5) W := fun W => q5 W
    replace q5' : ∀ W : World, (Instr.sliceAt 23 (.slice a n c) (some (.int .i64 5)) none none).run Try.prog W = .ok (.slice s5 (n - 5) k5) W := fun W => q5' W
    have H5 := hide B5
    have hm32 := le_take4_lt (b.drop 5)
    obtain ⟨m, hm⟩ : ∃ m, m = le ((b.drop 5).take 4) := ⟨_, rfl⟩
    have HM := hide hm
    have HN : Hid (4 ≤ n - 5) := by show 4 ≤ _; omega
    rw [← hm] at hm32
    by_cases h1 : 4096 < m
    · have e1 : toldErr b = 31 := by unfold toldErr; rw [if_neg (by omega), if_pos (by omega)]
      have e2 : toldLen b = 0 := by unfold toldLen; rw [e1]; rfl
      rw [e1, e2]
      have g2 : (m : Int) > 4096 := by omega
      clear h e1 e2 hl hn B5 hm
      go_enter Try.func42, Try.ntmps42
      go_wp2_with fail
      refine (number_any _ _ _ _ _ (unhide H5) (unhide HN)).mono ?_
      rintro e w' ⟨rfl, rfl⟩
      rw [← unhide HM]
      go_wp2_with fail
      go_ret2
      exact ⟨rfl, rfl⟩
    · have g2 : ¬ (m : Int) > 4096 := by omega
      have HLG : Hid ((if 0 ≤ (m : Int) ∧ (m : Int) ≤ 4096 then (m : Int) + 9 else 0) = ((9 + m : Nat) : Int)) := by show _ = _; rw [if_pos (by omega)]; omega
      by_cases h2 : n < 9 + m
      · have e1 : toldErr b = 32 := by unfold toldErr; rw [if_neg (by omega), if_neg (by omega), if_pos (by omega)]
        have e2 : toldLen b = 0 := by unfold toldLen; rw [e1]; rfl
        rw [e1, e2]
        obtain ⟨E, hE⟩ : ∃ E : Nat, E = 9 + m := ⟨_, rfl⟩
        rw [← hE] at HLG
        have g3 : (n : Int) < (E : Int) := by omega
        clear h e1 e2 hl hn B5 hm h1 hE
        go_enter Try.func42, Try.ntmps42
        go_wp2_with fail
        refine (number_any _ _ _ _ _ (unhide H5) (unhide HN)).mono ?_
        rintro e w' ⟨rfl, rfl⟩
        rw [← unhide HM]
        go_wp2_with fail
        refine (long_any _ _).mono ?_
        rintro e w' ⟨rfl, rfl⟩
        rw [unhide HLG]
        go_wp2_with fail
        go_ret2
        exact ⟨rfl, rfl⟩
      · have e1 : toldErr b = 0 := by unfold toldErr; rw [if_neg (by omega), if_neg (by omega), if_neg (by omega)]
        have e2 : toldLen b = 9 + m := by unfold toldLen; rw [if_pos e1, ← hm]
        rw [e1, e2]
        obtain ⟨E, hE⟩ : ∃ E : Nat, E = 9 + m := ⟨_, rfl⟩
        rw [← hE] at HLG ⊢
        have g3 : ¬ (n : Int) < (E : Int) := by omega
        clear h e1 e2 hl hn B5 hm h1 hE
        go_enter Try.func42, Try.ntmps42
        go_wp2_with fail
        refine (number_any _ _ _ _ _ (unhide H5) (unhide HN)).mono ?_
        rintro e w' ⟨rfl, rfl⟩
        rw [← unhide HM]
        go_wp2_with fail
        refine (long_any _ _).mono ?_
        rintro e w' ⟨rfl, rfl⟩
        rw [unhide HLG]
        go_wp2_with fail
        go_ret2
        exact ⟨rfl, rfl⟩
end Go.Proofs.Ytbbglgfgelnncaa
