/- BatchImplA, CrcMath2, CrcImplA, CrcSum, RecImplTake: our own definitions and contracts; no statement of the seat is proved here. -/
import Derived.Test.YtflfiobicapopaaBase05
import Derived.Test.YtflfiobicapopaaBase06
import Derived.Test.YtflfiobicapopaaBase00
import Derived.RangeFuncNested
import Derived.RangeFuncBound
import Derived.RangeFuncCalls
import Derived.RangeFuncLeaves
import Derived.Shelf.Abstract
import Derived.Shelf.RegionOpen
import Derived.WalkKit
import Derived.OwnWalkIn
import Derived.TacticsInMore
import Derived.LoopNIn
import Derived.LoopIn
namespace Go.Proofs.Ytflfiobicapopaa
open Go.RowKit

set_option maxHeartbeats 400000 in
theorem equal_any (u1 u2 : Value) (b1 b2 : List UInt8) (w : World) (h1 : Bytes w u1 b1) (h2 : Bytes w u2 b2) : Calls Try.prog 94 #[u1, u2] w fun e w' => e = .returned (.bool (decide (b1 = b2))) ∧ w' = w := by
  have c1 := run_convert_bytes (P := Try.prog) w 49 9 5 Try.underlying49 Try.underlying5 Try.underlying9 u1 b1 h1
  have c2 := run_convert_bytes (P := Try.prog) w 49 9 5 Try.underlying49 Try.underlying5 Try.underlying9 u2 b2 h2
  have e0 : ((⟨b1.toArray⟩ : ByteArray).toList == (⟨b2.toArray⟩ : ByteArray).toList) = decide (b1 = b2) := by
    rw [ByteArray.toList_eq, ByteArray.toList_eq, Bool.eq_iff_iff]; simp
  have HE : Hid (((⟨b1.toArray⟩ : ByteArray).toList == (⟨b2.toArray⟩ : ByteArray).toList) = decide (b1 = b2)) := e0
  clear e0 h1 h2
  generalize (⟨b1.toArray⟩ : ByteArray) = s1 at *
  generalize (⟨b2.toArray⟩ : ByteArray) = s2 at *
  go_enter Try.func94, Try.ntmps94
  go_wp2
  go_ret
  exact ⟨ret_bool HE.out, rfl⟩

/-- The two bytes of a number, in a block of their own. -/
theorem two_cells (n : Nat) : #[.int .u8 ((n % 256 : Nat) : Int), .int .u8 ((n / 256 % 256 : Nat) : Int)] = ((two n).map bv).toArray := by
  have h1 : (UInt8.ofNat (n % 256)).toNat = n % 256 := by simp
  have h2 : (UInt8.ofNat (n / 256 % 256)).toNat = n / 256 % 256 := by simp
  unfold two
  simp only [List.map_cons, List.map_nil]
  show _ = #[Value.int .u8 ((UInt8.ofNat (n % 256)).toNat : Nat), Value.int .u8 ((UInt8.ofNat (n / 256 % 256)).toNat : Nat)]
  rw [h1, h2]

set_option maxHeartbeats 400000 in
theorem endOf_any (n : Nat) (w : World) : Calls Try.prog 65 #[.int .i64 ((n : Nat) : Int)] w fun e w' => e = .returned (.slice (some ⟨w.heap.size, 0, none⟩) 2 2) ∧ Bytes w' (.slice (some ⟨w.heap.size, 0, none⟩) 2 2) (two n) ∧ Below w.heap.size w w' := by
  have e1 : IntKind.u8.wrap ((n : Nat) : Int) = ((n % 256 : Nat) : Int) := by rw [IntKind.wrap_u8]; omega
  have e2 : IntKind.u8.wrap ((n / 256 : Nat) : Int) = ((n / 256 % 256 : Nat) : Int) := by rw [IntKind.wrap_u8]; omega
  have HT := hide (two_cells n)
  go_enter Try.func65, Try.ntmps65
  go_wp2
  go_ret
  refine ⟨rfl, bytes_block (bs := two n) (heap_alloc_new w _) ?_ (by show 2 ≤ 1000; omega), (Below.refl _ w).alloc (Nat.le_refl _) _⟩
  rw [← unhide HT, show ((n : Int) % 256) = ((n % 256 : Nat) : Int) by omega, show ((n : Int) / 256 % 256) = ((n / 256 % 256 : Nat) : Int) by omega]

theorem two_is {d : List UInt8} {n : Nat} (hn : n < 65536) : d = two n ↔ d.length = 2 ∧ le d = n := by
  constructor
  · rintro rfl; exact ⟨rfl, le_two hn⟩
  · rintro ⟨h2, hl⟩
    match d, h2 with
    | [x, y], _ =>
      have hx := x.toNat_lt
      have hy := y.toNat_lt
      have hl' : x.toNat + 256 * (y.toNat + 256 * 0) = n := hl
      unfold two
      have e1 : n % 256 = x.toNat := by omega
      have e2 : n / 256 % 256 = y.toNat := by omega
      rw [e1, e2]
      simp

set_option maxHeartbeats 1000000 in
theorem isEnd_any (u : Value) (d : List UInt8) (n : Nat) (hn : n ≤ 1024) (w : World) (h : Bytes w u d) : Calls Try.prog 81 #[u, .int .i64 ((n : Nat) : Int)] w fun e w' => e = .returned (.bool (decide (0 < n ∧ d.length = 2 ∧ le d = n))) ∧ Below w.heap.size w w' := by
  have HH := hide h
  clear h
  by_cases h0 : n = 0
  · subst h0
    go_enter Try.func81, Try.ntmps81
    go_wp2_with fail
    go_ret
    exact ⟨by simp, Below.refl _ w⟩
  · have h0' : (n : Int) > 0 := by omega
    have HD : Hid (decide (d = two n) = decide (0 < n ∧ d.length = 2 ∧ le d = n)) := by
      show decide _ = decide _
      have := two_is (d := d) (n := n) (by omega)
      rw [Bool.eq_iff_iff, decide_eq_true_iff, decide_eq_true_iff, this]
      constructor
      · exact fun h => ⟨by omega, h⟩
      · exact fun h => h.2
    go_enter Try.func81, Try.ntmps81
    go_wp2_with fail
    refine (endOf_any n _).mono ?_
    rintro e w1 ⟨rfl, hB, hb⟩
    have HB := hide hB
    have HBB := hide hb
    have HU := hide ((unhide HH).later hb)
    clear hB hb
    go_wp2_with fail
    refine (equal_any _ _ _ _ _ (unhide HU) (unhide HB)).mono ?_
    rintro e w2 ⟨rfl, rfl⟩
    rw [unhide HD]
    obtain ⟨r, hr⟩ : ∃ r, r = decide (0 < n ∧ d.length = 2 ∧ le d = n) := ⟨_, rfl⟩
    rw [← hr]
    have HR := hide hr
    clear hr
    go_wp2_with fail
    go_ret
    exact ⟨by rw [← unhide HR]; rfl, unhide HBB⟩

/-- How many bytes the rows' records have. -/
theorem dats_sum (rows : List (List UInt8)) {j : Nat} {x : List UInt8} (hx : rows[j]? = some x) : (puts ((rows.take (j + 1)).map dat)).length = (puts ((rows.take j).map dat)).length + (9 + x.length) := by
  rw [map_take_succ hx, puts_snoc, List.length_append, put_len]
  rfl

set_option maxRecDepth 100000 in
set_option maxHeartbeats 4000000 in
theorem landLong_any (u : Value) (rows : List (List UInt8)) (w : World) (h : RowsAt w u rows) : Calls Try.prog 25 #[u] w fun e w' => e = .returned (.tuple #[.int .i64 (((bputOf rows).length : Nat) : Int), .int .i64 (bputErr rows)]) ∧ Below w.heap.size w w' := by
  obtain ⟨a, c, rfl, _⟩ := h.form
  obtain ⟨n, hn⟩ : ∃ n, n = rows.length := ⟨_, rfl⟩
  rw [← hn] at h ⊢
  by_cases hf : n < 1 ∨ 1024 < n
  · have e1 := bputErr_few (rows := rows) (by omega)
    rw [e1, bput_none e1 (by decide)]
    have hcase : (n = 0) ∨ (((n : Int) == 0) = false ∧ (n : Int) > 1024) := by
      rcases hf with hf | hf
      · exact .inl (by omega)
      · exact .inr ⟨beq_eq_false_iff_ne.2 (by omega), by omega⟩
    clear hf h hn e1
    rcases hcase with rfl | ⟨g1, g2⟩
    all_goals go_enter Try.func25, Try.ntmps25
    all_goals go_wp2_with fail
    all_goals go_ret2
    all_goals exact ⟨rfl, Below.refl _ w⟩
  · have g1 : ((n : Int) == 0) = false := beq_eq_false_iff_ne.2 (by omega)
    have g2 : ¬ (n : Int) > 1024 := by omega
    have hn1 : 1 ≤ n ∧ n ≤ 1024 := by omega
    clear hf
    have HH := hide h
    have HN := hide hn
    clear h hn
    go_enter Try.func25, Try.ntmps25
    go_wp2_with fail
    refine (endOf_any n _).mono ?_
    rintro e w1 ⟨rfl, _, hb⟩
    have HB1 := hide hb
    clear hb
    go_wp2_with fail
    refine (long_any 2 _).mono ?_
    rintro e w2 ⟨rfl, hw⟩
    rw [hw]
    clear hw
    rw [if_pos (by omega)]
    go_wp2_with fail
    go_loopw [4, 22] (fun v i W => ∃ j : Nat, j ≤ n ∧ i = .int .i64 j ∧ (∀ r ∈ rows.take j, r.length ≤ 4096) ∧ v = .int .i64 ((11 + (puts ((rows.take j).map dat)).length : Nat) : Int) ∧ W = w1) (fun _ i _ => n - (intOf i).toNat)
    case atStart => exact ⟨0, Nat.zero_le _, rfl, fun r hr => (by simp at hr), by simp [puts], rfl⟩
    case round =>
      obtain ⟨j, hj, rfl, hrt, rfl, rfl⟩ := hrel
      have HRT := hide hrt
      have hle := dats_len hrt
      have hle2 : (puts ((rows.take j).map dat)).length ≤ 4105 * 1024 := by
        have : (rows.take j).length ≤ 1024 := by rw [List.length_take]; have := unhide HN; omega
        omega
      clear hrt hle
      by_cases hlt : j < n
      · obtain ⟨x, hx⟩ := some_get (xs := rows) (j := j) (by have := unhide HN; omega)
        obtain ⟨b1, o1, v1, e1, x1, x3⟩ := ((unhide HH).later (unhide HB1)).at hx
        subst e1
        obtain ⟨d1, k1, ed1, _⟩ := x3.form
        subst ed1
        have i1 : (j : Int) < (n : Int) := by omega
        have HDS := hide (dats_sum rows hx)
        have HX := hide hx
        clear x3 hx
        obtain ⟨nx, hnx⟩ : ∃ nx, nx = x.length := ⟨_, rfl⟩
        rw [← hnx] at x1 HDS
        have HNX := hide hnx
        clear hnx
        generalize (puts ((rows.take j).map dat)).length = S at *
        by_cases h4 : nx ≤ 4096
        · have h4' : ¬ (nx : Int) > 4096 := by omega
          obtain ⟨T, hT⟩ : ∃ T, T = 11 + S + (9 + nx) := ⟨_, rfl⟩
          have gT : ((11 + S : Nat) : Int) + ((nx : Int) + 9) = (T : Int) := by omega
          have HT := hide hT
          have HT2 : Hid (T ≤ 1000000000) := by show T ≤ _; omega
          clear hT
          go_wp2_with fail
          refine (long_any (nx : Int) _).mono ?_
          rintro e w3 ⟨rfl, hw⟩
          rw [hw]
          clear hw
          rw [if_pos (by omega)]
          go_wp2_with fail
          refine ⟨⟨j + 1, by omega, by go_num, fun r hr => ?_, ?_, by trivial⟩, by simp [intOf]; omega⟩
          · obtain ⟨hj2, hxe⟩ := List.getElem?_eq_some_iff.1 (unhide HX)
            rw [List.take_succ_eq_append_getElem hj2, List.mem_append, List.mem_singleton, hxe] at hr
            rcases hr with hr | rfl
            · exact unhide HRT r hr
            · rw [← unhide HNX]; exact h4
          · rw [unhide HDS]
            go_num
        · have h4' : (nx : Int) > 4096 := by omega
          have e1 := bputErr_long (rows := rows) (by rw [← unhide HN]; exact hn1) (List.mem_of_getElem? (unhide HX)) (by rw [← unhide HNX]; omega)
          have HE1 := hide e1
          have HE2 := hide (bput_none e1 (by decide))
          clear e1
          go_wp2_with fail
          go_ret2
          exact ⟨by rw [unhide HE1, unhide HE2]; rfl, unhide HB1⟩
      · have ej : n = j := by omega
        subst ej
        have HTK : Hid (rows.take n = rows) := List.take_of_length_le (by rw [unhide HN]; exact Nat.le_refl _)
        rw [unhide HTK] at HRT ⊢
        have hok : okRows rows := ⟨by rw [← unhide HN]; exact hn1, unhide HRT⟩
        have HE : Hid (bputErr rows = 0) := bputErr_zero.2 hok
        have HBO : Hid ((bputOf rows).length = 11 + (puts (rows.map dat)).length) := by
          show _ = _
          unfold bputOf
          rw [if_pos (unhide HE)]
          unfold bput recsOf
          rw [puts_snoc, List.length_append, put_len, ← unhide HN]
          show _ + (9 + 2) = _
          omega
        clear hok
        generalize (puts (rows.map dat)).length = S at *
        go_wp2_with fail
        go_ret2
        exact ⟨by rw [unhide HE, unhide HBO]; rfl, unhide HB1⟩
end Go.Proofs.Ytflfiobicapopaa

namespace Go.Proofs.Ytflfiobicapopaa

/-- 1, as a polynomial, halved m times. -/
def pw (m : Nat) : Nat := hvs m 2147483648
theorem pw_lt (m : Nat) : pw m < 4294967296 := hvs_lt (by decide)
theorem pw_hvs (m n : Nat) : hvs n (pw m) = pw (m + n) := (hvs_add m n _).symm
theorem pw_small {i : Nat} (h : i ≤ 31) : pw i = 2 ^ (31 - i) := by
  have h1 := hvs_two_pow i (2 ^ (31 - i))
  rw [← Nat.pow_add, show i + (31 - i) = 31 by omega] at h1
  exact h1
theorem pw_shift {m i : Nat} (h : i ≤ 31) : pw (m + i) = hvs m (2 ^ (31 - i)) := by
  rw [← pw_small h, pw_hvs, Nat.add_comm]

/-- What the first i rounds have met of a number. -/
def topOf (a i : Nat) : Nat := a / 2 ^ (32 - i) * 2 ^ (32 - i)
/-- What they have left of it. -/
def lowOf (a i : Nat) : Nat := a * 2 ^ i % 4294967296

theorem low_zero {a : Nat} (h : a < 4294967296) : lowOf a 0 = a := by unfold lowOf; rw [Nat.pow_zero, Nat.mul_one, Nat.mod_eq_of_lt h]
theorem top_zero {a : Nat} (h : a < 4294967296) : topOf a 0 = 0 := by
  unfold topOf
  rw [Nat.div_eq_of_lt (by simpa using h), Nat.zero_mul]
theorem low_succ (a i : Nat) : lowOf a (i + 1) = lowOf a i * 2 % 4294967296 := by
  unfold lowOf
  rw [Nat.pow_succ, ← Nat.mul_assoc, Nat.mod_mul_mod]
theorem low_lt (a i : Nat) : lowOf a i < 4294967296 := Nat.mod_lt _ (by decide)
theorem low_eq {a i : Nat} (hi : i ≤ 32) : lowOf a i = a % 2 ^ (32 - i) * 2 ^ i := by
  unfold lowOf
  have e : 4294967296 = 2 ^ (32 - i) * 2 ^ i := by rw [← Nat.pow_add, show 32 - i + i = 32 by omega]
  rw [e, Nat.mul_mod_mul_right]
theorem low_32 (a : Nat) : lowOf a 32 = 0 := by rw [low_eq (Nat.le_refl _)]; simp [Nat.mod_one]
theorem top_done {a i : Nat} (hi : i ≤ 32) (h : lowOf a i = 0) : topOf a i = a := by
  rw [low_eq hi] at h
  have h2 : 0 < 2 ^ i := Nat.two_pow_pos i
  have h1 : a % 2 ^ (32 - i) = 0 := by
    rcases Nat.mul_eq_zero.1 h with h | h
    · exact h
    · omega
  unfold topOf
  have := Nat.div_add_mod a (2 ^ (32 - i))
  rw [h1, Nat.add_zero, Nat.mul_comm] at this
  exact this

/-- The bit that the round i meets. -/
theorem low_bit {a i : Nat} (hi : i < 32) : lowOf a i / 2147483648 = a / 2 ^ (31 - i) % 2 := by
  rw [low_eq (by omega)]
  have e : 2147483648 = 2 ^ (31 - i) * 2 ^ i := by rw [← Nat.pow_add, show 31 - i + i = 31 by omega]
  rw [e, Nat.mul_div_mul_right _ _ (Nat.two_pow_pos i), show 32 - i = (31 - i) + 1 by omega, Nat.pow_succ, Nat.mod_mul_right_div_self]

theorem top_succ {a i : Nat} (hi : i < 32) : topOf a (i + 1) = topOf a i ^^^ a / 2 ^ (31 - i) % 2 * 2 ^ (31 - i) := by
  unfold topOf
  rw [show 32 - (i + 1) = 31 - i by omega, show 32 - i = (31 - i) + 1 by omega]
  generalize hk : 31 - i = k
  have h1 : a / 2 ^ (k + 1) = a / 2 ^ k / 2 := by rw [Nat.pow_succ, Nat.div_div_eq_div_mul]
  rw [h1]
  generalize a / 2 ^ k = q
  have h2 : q % 2 * 2 ^ k < 2 ^ (k + 1) := by
    have : q % 2 < 2 := Nat.mod_lt _ (by decide)
    have h3 : 0 < 2 ^ k := Nat.two_pow_pos k
    rw [Nat.pow_succ]
    rcases (by omega : q % 2 = 0 ∨ q % 2 = 1) with h | h <;> rw [h] <;> omega
  rw [Nat.xor_comm, Nat.mul_comm (q / 2), ← add_xor h2, Nat.pow_succ]
  have h4 : q = 2 * (q / 2) + q % 2 := by omega
  calc q * 2 ^ k = (2 * (q / 2) + q % 2) * 2 ^ k := by rw [← h4]
    _ = q % 2 * 2 ^ k + 2 ^ k * 2 * (q / 2) := by rw [Nat.add_mul, Nat.add_comm, Nat.mul_comm (2 * (q / 2)), Nat.mul_assoc]

/-- One round of the product. -/
theorem times_step {a i m : Nat} (hi : i < 32) : hvs m (topOf a (i + 1)) = hvs m (topOf a i) ^^^ pw (m + i) * (lowOf a i / 2147483648) := by
  rw [low_bit hi, top_succ hi, hvs_xor, pw_shift (by omega)]
  rcases (by omega : a / 2 ^ (31 - i) % 2 = 0 ∨ a / 2 ^ (31 - i) % 2 = 1) with h | h <;> rw [h]
  · rw [Nat.zero_mul, hvs_zero, Nat.mul_zero]
  · rw [Nat.one_mul, Nat.mul_one]

/-- How many rounds are left. -/
def roundsOf : Nat → Nat → Nat
  | 0, _ => 0
  | k + 1, a => if a = 0 then 0 else 1 + roundsOf k (a * 2 % 4294967296)
theorem rounds_enough : ∀ (k a : Nat), a * 2 ^ k % 4294967296 = 0 → a < 4294967296 → roundsOf (k + 1) a = roundsOf k a
  | 0, a, h, hl => by
    have : a = 0 := by rw [Nat.pow_zero, Nat.mul_one, Nat.mod_eq_of_lt hl] at h; exact h
    subst this
    rfl
  | k + 1, a, h, hl => by
    show (if a = 0 then 0 else 1 + roundsOf (k + 1) (a * 2 % 4294967296)) = if a = 0 then 0 else 1 + roundsOf k (a * 2 % 4294967296)
    split
    · rfl
    · rw [rounds_enough k (a * 2 % 4294967296) (by rw [Nat.mod_mul_mod, Nat.mul_assoc, Nat.mul_comm 2, ← Nat.pow_succ]; exact h) (Nat.mod_lt _ (by decide))]
theorem rounds_less {a : Nat} (ha : a ≠ 0) : roundsOf 33 (a * 2 % 4294967296) < roundsOf 33 a := by
  have e : roundsOf 33 a = 1 + roundsOf 32 (a * 2 % 4294967296) := if_neg ha
  rw [e, rounds_enough 32 _ (by rw [show (2 : Nat) ^ 32 = 4294967296 from rfl, Nat.mul_mod_left]) (Nat.mod_lt _ (by decide))]
  omega

theorem nought_pw : pw 8 = 8388608 := by rw [pw_small (by omega)]
theorem unit_pw : pw 0 = 2147483648 := rfl
theorem hv_mul (n : Nat) : hv n = n / 2 ^^^ 3988292384 * (n % 2) := by
  unfold hv crcPoly
  split
  · rename_i h; rw [h, Nat.mul_one]
  · rename_i h; rw [show n % 2 = 0 by omega, Nat.mul_zero, Nat.xor_zero]
end Go.Proofs.Ytflfiobicapopaa

namespace Go.Proofs.Ytflfiobicapopaa
open Go.RowKit

theorem halved_any (n : Nat) (hn : n < 4294967296) (w : World) : Calls Try.prog 105 #[.int .u32 (n : Nat)] w fun e w' => e = .returned (.int .u32 (hv n : Nat)) ∧ w' = w := by
  have e1 : bits .and .u32 ((n : Nat) : Int) 1 = ((n % 2 : Nat) : Int) := by
    have := u32_and_nat n 1 hn (by decide)
    rw [Nat.and_one_is_mod] at this
    exact this
  have e2 : bits .xor .u32 ((n : Int) / 2) (3988292384 * bits .and .u32 ((n : Nat) : Int) 1 % 4294967296) = ((hv n : Nat) : Int) := by
    rw [e1, hv_mul, show (n : Int) / 2 = ((n / 2 : Nat) : Int) by omega, show (3988292384 * ((n % 2 : Nat) : Int)) % 4294967296 = ((3988292384 * (n % 2) : Nat) : Int) by omega]
    exact u32_xor_nat _ _ (by omega) (by omega)
  have E2 := hide e2
  clear e1 e2
  go_enter Try.func105, Try.ntmps105
  go_wp2
  go_ret
  exact ⟨ret_int (unhide E2), rfl⟩

set_option maxHeartbeats 1000000 in
/-- The closure that halves. -/
theorem halve_any (B n : Nat) (hn : n < 4294967296) (w : World) (hc : w.cell? ⟨B, 0, none⟩ = some (.int .u32 (n : Nat))) (hf : w.frozen? ⟨B, 0, none⟩ = false) :
    Calls Try.prog 104 #[.pointer (some ⟨B, 0, none⟩)] w fun e w' => (∃ v, e = .returned v) ∧ w' = w.setCell ⟨B, 0, none⟩ (.int .u32 (hv n : Nat)) := by
  go_enter Try.func104, Try.ntmps104
  go_wp2_with fail
  refine (halved_any n hn _).mono ?_
  rintro e w' ⟨rfl, rfl⟩
  go_wp2
  go_end0
  exact ⟨⟨_, rfl⟩, rfl⟩

set_option maxHeartbeats 1000000 in
theorem table_any (i : Nat) (hi : i < 256) (w : World) : Calls Try.prog 103 #[.int .u8 (i : Nat)] w fun e w' => e = .returned (.int .u32 (hvs 8 i : Nat)) ∧ Below w.heap.size w w' := by
  have HI : Hid (i < 4294967296) := by show i < _; omega
  have hB0 : Below w.heap.size w (w.alloc (.cells #[.int .u32 (i : Nat)] 119)) := (Below.refl _ w).alloc (Nat.le_refl _) _
  have HB0 := hide hB0
  clear hB0
  go_enter Try.func103, Try.ntmps103
  go_wp2
  go_loopw [8] (fun k W => ∃ j : Nat, j ≤ 8 ∧ k = .int .i64 j ∧ W.cell? ⟨w.heap.size, 0, none⟩ = some (.int .u32 ((hvs j i : Nat) : Int)) ∧ W.frozen? ⟨w.heap.size, 0, none⟩ = false ∧ Below w.heap.size w W) (fun k _ => 8 - (intOf k).toNat)
  case atStart => exact ⟨0, by omega, rfl, by simp; rfl, by simp, unhide HB0⟩
  case round =>
    obtain ⟨j, hj, rfl, hc, hf, hB⟩ := hrel
    have HB := hide hB
    have HS := hide (hvs_succ j i)
    have HL : Hid (hvs j i < 4294967296) := hvs_lt (unhide HI)
    clear hB
    by_cases hlt : j < 8
    · generalize hvs j i = x at *
      go_wp2_with fail
      refine (halve_any w.heap.size x (unhide HL) _ hc hf).mono ?_
      rintro e w' ⟨⟨v, rfl⟩, rfl⟩
      go_wp2
      exact ⟨⟨j + 1, by omega, by go_num, by rw [unhide HS]; exact World.cell?_setCell_same' _ _ _ (by rw [hc]; rfl), by rw [World.frozen?_setCell]; exact hf, (unhide HB).setCell (p := ⟨w.heap.size, 0, none⟩) (Nat.le_refl _) _⟩, by simp [intOf]; omega⟩
    · have e8 : j = 8 := by omega
      subst e8
      go_wp2
      go_ret
      exact ⟨rfl, unhide HB⟩

set_option maxHeartbeats 1000000 in
/-- A byte goes through the register. -/
theorem through_any (r b : Nat) (hr : r < 4294967296) (hb : b < 256) (w : World) : Calls Try.prog 101 #[.int .u32 (r : Nat), .int .u8 (b : Nat)] w fun e w' => e = .returned (.int .u32 (hvs 8 (r ^^^ b) : Nat)) ∧ Below w.heap.size w w' := by
  have hx : bits .xor .u8 (((r : Nat) : Int) % 256) ((b : Nat) : Int) = (((r % 256) ^^^ b : Nat) : Int) := by
    rw [show ((r : Nat) : Int) % 256 = ((r % 256 : Nat) : Int) by omega]
    exact u8_xor_nat _ _ (by omega) hb
  have hl : (r % 256) ^^^ b < 256 := Nat.xor_lt_two_pow (n := 8) (by omega) hb
  have hy : bits .xor .u32 ((hvs 8 ((r % 256) ^^^ b) : Nat) : Int) (((r : Nat) : Int) / 256) = ((hvs 8 (r ^^^ b) : Nat) : Int) := by
    rw [through r b hb, show ((r : Nat) : Int) / 256 = ((r / 256 : Nat) : Int) by omega]
    exact u32_xor_nat _ _ (hvs_lt (by omega)) (by omega)
  have HX := hide hx
  have HL := hide hl
  have HY := hide hy
  clear hx hl hy
  go_enter Try.func101, Try.ntmps101
  go_wp2_with fail
  rw [unhide HX]
  refine (table_any _ (unhide HL) _).mono ?_
  rintro e w' ⟨rfl, hB⟩
  have HB := hide hB
  clear hB
  go_wp2
  go_ret
  exact ⟨ret_int (unhide HY), unhide HB⟩

/-- All bits turned about. -/
theorem turned (s : Nat) (hs : s < 4294967296) : bits .xor .u32 IntKind.u32.max ((s : Nat) : Int) = ((crcOnes ^^^ s : Nat) : Int) := u32_xor_nat 4294967295 s (by decide) hs
end Go.Proofs.Ytflfiobicapopaa

namespace Go.Proofs.Ytflfiobicapopaa
open Go.RowKit Go.Shelf
attribute [local go_sem] Oper.semAt_some

/-- The register behind the first k bytes. -/
def regAt (r : Nat) (bs : List UInt8) (k : Nat) : Nat := (bs.take k).foldl (fun s b => hvs 8 (s ^^^ b.toNat)) r
theorem reg_succ (r : Nat) (bs : List UInt8) (k : Nat) (h : k < bs.length) : regAt r bs (k + 1) = hvs 8 (regAt r bs k ^^^ (bs.getD k 0).toNat) := by
  unfold regAt
  rw [List.take_succ_eq_append_getElem h, List.foldl_append, List.getD_eq_getElem?_getD, List.getElem?_eq_getElem h]
  rfl
theorem reg_lt {r : Nat} (hr : r < 4294967296) (bs : List UInt8) (k : Nat) : regAt r bs k < 4294967296 := by
  unfold regAt
  generalize bs.take k = xs
  induction xs generalizing r with
  | nil => exact hr
  | cons b l ih => exact ih (hvs_lt (xor_lt32 hr (by have := b.toNat_lt; omega)))
theorem reg_sum (bs : List UInt8) : crcOnes ^^^ regAt crcOnes bs bs.length = sumB bs := by
  unfold regAt sumB
  rw [List.take_length]
  suffices h : ∀ (xs : List UInt8) (s : Nat), crcOnes ^^^ xs.foldl (fun s b => hvs 8 (s ^^^ b.toNat)) (crcOnes ^^^ s) = xs.foldl (fun s b => nx s b.toNat) s by
    have := h bs 0
    rwa [Nat.xor_zero] at this
  intro xs
  induction xs with
  | nil => intro s; exact ones_ones s
  | cons b l ih =>
    intro s
    have h2 := ih (nx s b.toNat)
    rw [show crcOnes ^^^ nx s b.toNat = hvs 8 (crcOnes ^^^ s ^^^ b.toNat) from ones_ones _] at h2
    exact h2

/-- What has come when k rounds are over. -/
def comeTo (r : Nat) (bs : List UInt8) (k : Nat) : List Nat := (List.range k).map fun j => regAt r bs (j + 1)
theorem come_succ (r : Nat) (bs : List UInt8) (k : Nat) : comeTo r bs (k + 1) = comeTo r bs k ++ [regAt r bs (k + 1)] := by simp [comeTo, List.range_succ]
theorem come_length (r : Nat) (bs : List UInt8) (k : Nat) : (comeTo r bs k).length = k := by simp [comeTo]

set_option maxRecDepth 100000 in
set_option maxHeartbeats 2000000 in
/-- The closure that tells the registers: for every loop body that keeps what lay below n₀. -/
theorem registers1_in (n : Nat) (hn : 1 ≤ n) (l Bf Bb n₀ r0 len cap : Nat) (a : Option Addr) (bs : List UInt8) (hr0 : r0 < 4294967296) (hlen : bs.length = len) (hmax : len ≤ 1048576) (J Jx : List Nat → World → Prop)
    (hJ : ∀ pre A B, J pre A → Below A.heap.size A B → J pre B)
    (hY : ∀ pre x W, J pre W → pre.length < len → YieldAt Fence.wide (n - 1) Try.prog l #[.int .u32 ((x : Nat) : Int)] W fun e W' =>
      (e = .returned (.bool true) ∧ J (pre ++ [x]) W' ∧ Below n₀ W W') ∨ (e = .returned (.bool false) ∧ Jx (pre ++ [x]) W'))
    (W : World) (hn₀ : n₀ ≤ W.heap.size) (hf : W.cell? ⟨Bf, 0, none⟩ = some (.int .u32 ((r0 : Nat) : Int))) (hb : W.cell? ⟨Bb, 0, none⟩ = some (.slice a len cap)) (hB : Bytes W (.slice a len cap) bs)
    (hlow : ∀ ad, a = some ad → bs ≠ [] → ad.block < n₀) (h0 : J [] W) :
    CallsIn Fence.wide n Try.prog 100 #[.func (.yield l) #[] #[], .pointer (some ⟨Bf, 0, none⟩), .pointer (some ⟨Bb, 0, none⟩)] W fun e W' => (∃ v, e = .returned v) ∧
      ((∃ ys, ys = comeTo r0 bs len ∧ J ys W') ∨ (∃ pre, (∃ k, k ≤ len ∧ pre = comeTo r0 bs k) ∧ Jx pre W')) := by
  have HB := hide hB
  have HJ := hide hJ
  have HLEN := hide hlen
  have HY := hide hY
  have HLOW := hide hlow
  clear hB hJ hlen hY hlow
  refine callsIn_of_wp Try.func100 rfl trivial ?_ rfl
  simp only [Try.ntmps100, List.size_toArray, List.length_cons, List.length_nil, Nat.reduceAdd, Nat.reduceSub, Array.replicate_succ, Array.replicate_zero, List.push_toArray, List.append_toArray, List.nil_append, List.cons_append]
  gi_wp2
  gi_loopw [4, 10] (fun r i wr => ∃ k : Nat, k ≤ len ∧ i = .int .i64 k ∧ r = .int .u32 ((regAt r0 bs k : Nat) : Int) ∧ J (comeTo r0 bs k) wr ∧ Below n₀ W wr)
    (fun _ i _ => len - (intOf i).toNat)
  case atStart => exact ⟨0, Nat.zero_le _, rfl, rfl, h0, Below.refl _ _⟩
  case round =>
    obtain ⟨k, hk, rfl, rfl, hJs, hnx⟩ := hrel
    have HJS := hide hJs
    have HNX := hide hnx
    clear hJs hnx
    by_cases hlt : k < len
    · obtain ⟨ad, rfl, hc⟩ := (unhide HB).at hlt (unhide HLEN)
      have hcx : wr.cell? (ad.add k) = some (.int .u8 ((bs.getD k 0).toNat : Nat)) := ((unhide HNX).cell (p := ad.add k) (by rw [show (ad.add k).block = ad.block by unfold Addr.add; split <;> rfl]; exact unhide HLOW ad rfl (by intro e; have := unhide HLEN; rw [e] at this; simp at this; omega))).trans hc
      have HS := hide (reg_succ r0 bs k (by have := unhide HLEN; omega))
      have HRL := hide (reg_lt hr0 bs k)
      have HBL := hide (bs.getD k 0).toNat_lt
      generalize regAt r0 bs k = x at *
      generalize (bs.getD k 0).toNat = y at *
      gi_wp2
      refine ⟨trivial, (callsIn_wide.2 (through_any x y (unhide HRL) (unhide HBL) _)).mono ?_⟩
      rintro e w' ⟨rfl, hBt⟩
      rw [← unhide HS]
      have HJ2 : Hid (J (comeTo r0 bs k) w') := unhide HJ _ _ _ (unhide HJS) hBt
      have HNX2 : Hid (Below n₀ W w') := (unhide HNX).trans (hBt.mono (Nat.le_trans hn₀ (unhide HNX).size))
      clear hBt
      obtain ⟨fn, tmps, assign, body, hy, hR⟩ := unhide HY _ (regAt r0 bs (k + 1)) w' (unhide HJ2) (by rw [come_length]; exact hlt)
      gi_wp2
      refine hR.mono ?_
      rintro e W3 (⟨rfl, hJ3, hk3⟩ | ⟨rfl, hJx3⟩)
      · gi_wp2
        go_roundw
        case rel => exact ⟨k + 1, by omega, by go_num, rfl, by rw [come_succ]; exact hJ3, (unhide HNX2).trans hk3⟩
        case measure => simp [intOf]; omega
      · gi_wp2
        refine bodyPost_ret (results_none rfl _ _ _) rfl ?_
        exact ⟨⟨_, rfl⟩, .inr ⟨_, ⟨k + 1, by omega, (come_succ _ _ _).symm⟩, hJx3⟩⟩
    · obtain rfl : k = len := by omega
      have hge : ¬ ((k : Nat) : Int) < ((k : Nat) : Int) := by omega
      gi_wp2
      go_end0
      exact ⟨⟨_, rfl⟩, .inl (unhide HJS)⟩

set_option maxHeartbeats 1000000 in
theorem registers_any (r0 : Nat) (a : Option Addr) (len cap : Nat) (w : World) :
    Calls Try.prog 95 #[.int .u32 ((r0 : Nat) : Int), .slice a len cap] w fun e w' => e = .returned (.func (.func 100) #[] #[.pointer (some ⟨w.heap.size, 0, none⟩), .pointer (some ⟨w.heap.size + 1, 0, none⟩)]) ∧ w' = (w.alloc (.cells #[.int .u32 ((r0 : Nat) : Int)] 119)).alloc (.cells #[.slice a len cap] 49) := by
  go_enter Try.func95, Try.ntmps95
  go_wp2
  go_ret
  exact ⟨rfl, rfl⟩

/-- The iterator's contract. -/
theorem registers_stops (n : Nat) (hn : 1 ≤ n) (Bf Bb n₀ r0 len cap : Nat) (a : Option Addr) (bs : List UInt8) (hr0 : r0 < 4294967296) (hlen : bs.length = len) (hmax : len ≤ 1048576) (w : World) (hBf : Bf < w.heap.size) (hBb : Bb < w.heap.size) (hn₀ : n₀ ≤ w.heap.size)
    (hf : w.cell? ⟨Bf, 0, none⟩ = some (.int .u32 ((r0 : Nat) : Int))) (hb : w.cell? ⟨Bb, 0, none⟩ = some (.slice a len cap)) (hB : Bytes w (.slice a len cap) bs) (hlow : ∀ ad, a = some ad → bs ≠ [] → ad.block < n₀) :
    SeqStopsK Fence.wide n Try.prog 100 #[.pointer (some ⟨Bf, 0, none⟩), .pointer (some ⟨Bb, 0, none⟩)] (fun x : Nat => #[Value.int .u32 ((x : Nat) : Int)]) (Below n₀) (fun ys => ys = comeTo r0 bs len) (fun pre => ∃ k, k ≤ len ∧ pre = comeTo r0 bs k) len w := fun l J Jx W hW hJ _ hY h0 => by
  refine registers1_in n hn l Bf Bb n₀ r0 len cap a bs hr0 hlen hmax J Jx (fun pre A B hA hb => hJ pre A B none hA ⟨hb.os, hb.tape, hb.output, hb.size, fun k hk _ => hb.block k hk⟩ (fun r e => by cases e)) hY W (Nat.le_trans hn₀ hW.size)
    ((hW.cell (p := ⟨Bf, 0, none⟩) hBf).trans hf) ((hW.cell (p := ⟨Bb, 0, none⟩) hBb).trans hb) (hB.kept fun k _ hk => hW.block k hk) hlow h0

theorem box_new (W : World) (v : Value) (t : TypeId) : (W.alloc (.cells #[v] t)).cell? ⟨W.heap.size, 0, none⟩ = some v ∧ (W.alloc (.cells #[v] t)).frozen? ⟨W.heap.size, 0, none⟩ = false := ⟨by simp, by simp⟩
theorem box_kept {W : World} {a : Addr} {v : Value} (o : Obj) (h : W.cell? a = some v) : (W.alloc o).cell? a = some v := cell_kept h (World.grownBy_alloc W o none) (fun r e => by cases e)
theorem box_frozen {W : World} {a : Addr} {v : Value} (o : Obj) (h : W.cell? a = some v) (hf : W.frozen? a = false) : (W.alloc o).frozen? a = false := (frozen_kept h (World.grownBy_alloc W o none) (fun r e => by cases e)).trans hf

/-- The register that came last. -/
def lastOf (pre : List Nat) : Nat := pre.getLast?.getD crcOnes
theorem last_snoc (pre : List Nat) (x : Nat) : lastOf (pre ++ [x]) = x := by simp [lastOf]
theorem last_come (bs : List UInt8) (k : Nat) : lastOf (comeTo crcOnes bs k) = regAt crcOnes bs k := by
  cases k with
  | zero => rfl
  | succ k => rw [come_succ, last_snoc]

set_option maxRecDepth 100000 in
set_option maxHeartbeats 2000000 in
theorem sum_any (u : Value) (bs : List UInt8) (w : World) (h : Bytes w u bs) (hl : bs.length ≤ 1048576) : Calls Try.prog 84 #[u] w fun e w' => e = .returned (.int .u32 (sumB bs : Nat)) ∧ Below w.heap.size w w' := by
  obtain ⟨a, cap, rfl, hlc⟩ := h.form
  obtain ⟨len, hn⟩ : ∃ n, n = bs.length := ⟨_, rfl⟩
  rw [← hn] at h hlc hl ⊢
  have HLOW : Hid (∀ ad, a = some ad → bs ≠ [] → ad.block < w.heap.size) := fun ad e hne => h.lt hne ad.block (by rw [e]; rfl)
  obtain ⟨w2, hw2⟩ : ∃ w2, w2 = ((w.alloc (.cells #[.int .u32 4294967295] 119)).alloc (.cells #[.int .u32 ((4294967295 : Nat) : Int)] 119)).alloc (.cells #[.slice a len cap] 49) := ⟨_, rfl⟩
  have HB0 : Hid (Below w.heap.size w w2) := by rw [hw2]; exact (((Below.refl _ w).alloc (Nat.le_refl _) _).alloc (by simp) _).alloc (by simp; omega) _
  have HSZ : Hid (w2.heap.size = w.heap.size + 3) := by rw [hw2]; show _ = _; simp
  have HH : Hid (Bytes w2 (.slice a len cap) bs) := by rw [hw2]; exact ((h.alloc _).alloc _).alloc _
  have c0 : w2.cell? ⟨w.heap.size, 0, none⟩ = some (.int .u32 4294967295) ∧ w2.frozen? ⟨w.heap.size, 0, none⟩ = false := by
    have c := box_new w (.int .u32 4294967295) 119
    rw [hw2]
    exact ⟨box_kept _ (box_kept _ c.1), box_frozen _ (box_kept _ c.1) (box_frozen _ c.1 c.2)⟩
  have c1 : w2.cell? ⟨w.heap.size + 1, 0, none⟩ = some (.int .u32 ((4294967295 : Nat) : Int)) := by
    have c := box_new (w.alloc (.cells #[.int .u32 4294967295] 119)) (.int .u32 ((4294967295 : Nat) : Int)) 119
    rw [World.size_alloc] at c
    rw [hw2]
    exact box_kept _ c.1
  have c2 : w2.cell? ⟨w.heap.size + 2, 0, none⟩ = some (.slice a len cap) := by
    have c := box_new ((w.alloc (.cells #[.int .u32 4294967295] 119)).alloc (.cells #[.int .u32 ((4294967295 : Nat) : Int)] 119)) (.slice a len cap) 49
    rw [World.size_alloc, World.size_alloc] at c
    rw [hw2]
    exact c.1
  have C0 := hide c0
  have C1 := hide c1
  have C2 := hide c2
  have HL := hide hl
  have HN := hide hn
  have HW2 := hide hw2
  clear c0 c1 c2 hl h hn hw2
  refine (callsIn_wide (n := 3)).1 ?_
  refine callsIn_of_wp_marks Try.func84 rfl trivial ?_ rfl
  simp only [Try.ntmps84, List.size_toArray, List.length_cons, List.length_nil, Nat.reduceAdd, Nat.reduceSub, Array.replicate_succ, Array.replicate_zero, List.push_toArray, List.append_toArray, List.nil_append, List.cons_append]
  gi_wp2
  refine ⟨trivial, (callsIn_wide.2 (registers_any 4294967295 a len cap _)).mono ?_⟩
  rintro e w' ⟨rfl, rfl⟩
  rw [← unhide HW2]
  simp only [World.size_alloc]
  gi_wp2
  have hsz := unhide HSZ
  refine wpIn_rangeFunc_ownF rfl (by omega) (gf := 100) (lb := #[.pointer (some ⟨w.heap.size + 1, 0, none⟩), .pointer (some ⟨w.heap.size + 2, 0, none⟩)]) rfl trivial (enters_of Try.func100 (by kernel_rfl) rfl)
    (registers_stops (3 - 1) (by omega) (w.heap.size + 1) (w.heap.size + 2) w.heap.size 4294967295 len cap a bs (by decide) (unhide HN).symm (unhide HL) w2 (by omega) (by omega) (by omega) (unhide C1) (unhide C2) (unhide HH) (unhide HLOW)) belowK_t (belowK_b (by omega)) (Below.refl _ _) (fun _ => rfl)
    (fun pre W => (W.cell? ⟨w.heap.size, 0, none⟩ = some (.int .u32 ((lastOf pre : Nat) : Int)) ∧ W.frozen? ⟨w.heap.size, 0, none⟩ = false) ∧ Below w.heap.size w W)
    (fun _ _ _ => False)
    (OwnFrom.and (Own.from (fun s A B row hs hg hr => ⟨cell_kept hs.1 hg hr, (frozen_kept hs.1 hg hr).trans hs.2⟩) _) (ownFrom_below (Nat.le_refl _) (by omega)))
    (fun _ _ _ _ _ hs _ _ => hs)
    ⟨unhide C0, unhide HB0⟩
    (fun x => { tmps := #[.slice a len cap, undef, .int .u32 0, .pointer (some ⟨w.heap.size, 0, none⟩), .int .u32 ((x : Nat) : Int), .slice a len cap, .func (.func 100) #[] #[.pointer (some ⟨w.heap.size + 1, 0, none⟩), .pointer (some ⟨w.heap.size + 1 + 1, 0, none⟩)], .int .u32 ((x : Nat) : Int), undef, undef, undef], defers := [] }) ?assign ?body ?done ?stop
  case assign =>
    intro l x W K hK
    gi_wp2
    exact hK
  case body =>
    rintro l pre x W ⟨⟨hc, hf⟩, hB⟩ _
    gi_wp2
    exact ⟨KeepsOthers.setCell _ _ _, (Below.refl w.heap.size W).setCell (p := ⟨w.heap.size, 0, none⟩) (Nat.le_refl _) _, ⟨by rw [last_snoc]; exact World.cell?_setCell_same' _ _ _ (by rw [hc]; rfl), by rw [World.frozen?_setCell]; exact hf⟩, hB.setCell (p := ⟨w.heap.size, 0, none⟩) (Nat.le_refl _) _⟩
  case done =>
    rintro D ys W hD rfl ⟨⟨hc, _⟩, hB⟩ hK
    have hlast : lastOf (comeTo 4294967295 bs len) = regAt crcOnes bs bs.length := by rw [← unhide HN]; exact last_come bs len
    rw [hlast] at hc
    have HF : Hid (bits .xor .u32 IntKind.u32.max ((regAt crcOnes bs bs.length : Nat) : Int) = ((sumB bs : Nat) : Int)) := by
      have := turned _ (reg_lt ones_lt bs bs.length)
      rw [reg_sum] at this
      exact this
    generalize regAt crcOnes bs bs.length = x at *
    have HB := hide hB
    clear hB
    gi_wp2
    refine ⟨by simp, .inl ⟨_, _, rfl, run_takeDeferred hK, ?_⟩⟩
    refine ⟨_, results_tmp rfl _ _ _, ?_⟩
    exact ⟨ret_int (unhide HF), (unhide HB).trans (belowK_b (w := w) (Nat.le_refl _) W D _ _ (by omega) hK rfl rfl)⟩
  case stop =>
    rintro D c pre W _ _ h _
    exact h.elim

end Go.Proofs.Ytflfiobicapopaa

namespace Go.Proofs.Ytflfiobicapopaa
open Go.RowKit

theorem take_told {b : List UInt8} (h : toldErr b ≠ 0) : takeErr b = toldErr b := by
  unfold toldErr at h ⊢
  unfold takeErr
  split
  · rfl
  · split
    · rfl
    · split
      · rfl
      · rename_i h1 h2 h3
        rw [if_neg h1, if_neg h2, if_neg h3] at h
        exact absurd rfl h
theorem told_ok {b : List UInt8} (h : toldErr b = 0) : 9 ≤ b.length ∧ le ((b.drop 5).take 4) ≤ 4096 ∧ 9 + le ((b.drop 5).take 4) ≤ b.length ∧ toldLen b = 9 + le ((b.drop 5).take 4) := by
  have h0 := h
  unfold toldErr at h
  split at h
  · cases h
  · split at h
    · cases h
    · split at h
      · cases h
      · exact ⟨by omega, by omega, by omega, if_pos h0⟩
theorem take_rest {b : List UInt8} (h : toldErr b = 0) : takeErr b = if sumB ((b.drop 4).take (5 + le ((b.drop 5).take 4))) ≠ le (b.take 4) then 33 else if (b.getD 4 0).toNat < 1 ∨ 2 < (b.getD 4 0).toNat then 30 else 0 := by
  obtain ⟨h1, h2, h3, _⟩ := told_ok h
  unfold takeErr
  rw [if_neg (by omega), if_neg (by omega), if_neg (by omega)]

section
variable (a : Option Addr) (n c : Nat) (b : List UInt8) (w : World)

set_option maxRecDepth 100000 in
set_option maxHeartbeats 4000000 in
theorem recTake_told (h : Bytes w (.slice a n c) b) (he : toldErr b ≠ 0) : Calls Try.prog 80 #[.slice a n c] w fun e w' => TookAt w b e w' := by
  have HE := hide (take_told he)
  have HE0 := hide he
  have e2 : toldLen b = 0 := if_neg he
  have HE2 := hide e2
  have hx : (toldErr b != 0) = true := bne_iff_ne.2 he
  have hx2 : (toldErr b == 0) = false := beq_eq_false_iff_ne.2 he
  have HH := hide (h.alloc (.cells #[.int .u8 0, .slice none 0 0] 99))
  have hb0 : Below w.heap.size w (w.alloc (.cells #[.int .u8 0, .slice none 0 0] 99)) := (Below.refl _ w).alloc (Nat.le_refl _) _
  have HB0 := hide hb0
  have HX : Hid ((w.alloc (.cells #[.int .u8 0, .slice none 0 0] 99)).heap[w.heap.size]? = some (.cells #[.int .u8 0, .slice none 0 0] 99 (0, 0))) := heap_alloc_new w _
  clear h hb0 e2 he
  go_enter Try.func80, Try.ntmps80
  go_wp2_with fail
  refine (toldLong_any a n c b _ (unhide HH)).mono ?_
  rintro e w1 ⟨rfl, hw1⟩
  rw [← hw1] at HX HB0
  clear hw1
  rw [unhide HE2]
  have c0 : w1.cell? ⟨w.heap.size, 0, none⟩ = some (.int .u8 0) := cell_of_row _ _ 0 _ _ _ (unhide HX)
  have c1 : w1.cell? ⟨w.heap.size, 1, none⟩ = some (.slice none 0 0) := cell_of_row _ _ 1 _ _ _ (unhide HX)
  have f0 : w1.frozen? ⟨w.heap.size, 0, none⟩ = false := frozen_of_row _ _ _ _ _ (unhide HX)
  have f1 : w1.frozen? ⟨w.heap.size, 1, none⟩ = false := frozen_of_row _ _ _ _ _ (unhide HX)
  generalize toldErr b = x at *
  go_wp2_with fail
  refine bodyPost_ret (results_ctt rfl _ _ _ _ _ _ _ rfl (set2_heap (unhide HX) _ _) Try.underlying99 rfl (by kernel_rfl)) rfl ?_
  exact took_none (unhide HE) (unhide HE0) (set2_below (unhide HB0) (Nat.le_refl _) _ _)

set_option maxRecDepth 100000 in
set_option maxHeartbeats 8000000 in
theorem recTake_rest (bb o : Nat) (h : Bytes w (.slice (some ⟨bb, o, none⟩) n c) b) (ht : toldErr b = 0) : Calls Try.prog 80 #[.slice (some ⟨bb, o, none⟩) n c] w fun e w' => TookAt w b e w' := by
  obtain ⟨hl, hnc⟩ := bytes_len h
  obtain ⟨t1, t2, t3, t4⟩ := told_ok ht
  have hR := take_rest ht
  obtain ⟨m, hm⟩ : ∃ m, m = le ((b.drop 5).take 4) := ⟨_, rfl⟩
  obtain ⟨E, hE⟩ : ∃ E : Nat, E = 9 + m := ⟨_, rfl⟩
  rw [← hm] at t2 t3 t4 hR
  rw [← hE] at t3 t4
  have HT4 := hide t4
  have HT0 := hide ht
  have hEn : E ≤ n := by omega
  obtain ⟨s4, k4, B4, q4, q4', _⟩ := slice_mid (l := 4) (h := E) h (by omega) (by omega)
  replace q4 : ∀ W : World, (Instr.slice 49 (.slice (some ⟨bb, o, none⟩) n c) (some (.int .i64 4)) (some (.int .i64 (E : Int))) none).run Try.prog W = .ok (.slice s4 (E - 4) k4) W := fun W => q4 W
  replace q4' : ∀ W : World, (Instr.sliceAt 49 (.slice (some ⟨bb, o, none⟩) n c) (some (.int .i64 4)) (some (.int .i64 (E : Int))) none).run Try.prog W = .ok (.slice s4 (E - 4) k4) W := fun W => q4' W
  have B4 : Bytes w (.slice s4 (E - 4) k4) ((b.drop 4).take (5 + m)) := by rw [show 5 + m = E - 4 by omega]; exact B4
  have H4 := hide B4
  have HL4 : Hid (((b.drop 4).take (5 + m)).length ≤ 1048576) := by show _ ≤ _; rw [List.length_take]; omega
  have hsl := sum_lt ((b.drop 4).take (5 + m))
  have hnl := le_take4_lt b
  have HH := hide h
  have HN9 : Hid (9 ≤ n) := by show 9 ≤ n; omega
  have hb0 : Below w.heap.size w (w.alloc (.cells #[.int .u8 0, .slice none 0 0] 99)) := (Below.refl _ w).alloc (Nat.le_refl _) _
  have HB0 := hide hb0
  have HX : Hid ((w.alloc (.cells #[.int .u8 0, .slice none 0 0] 99)).heap[w.heap.size]? = some (.cells #[.int .u8 0, .slice none 0 0] 99 (0, 0))) := heap_alloc_new w _
  have HEE := hide hE
  have HM := hide hm
  have h9 : 9 ≤ E := by omega
  have HL := hide hl
  have HRS := hide hR
  obtain ⟨s9, k9, B9, q9, q9', _⟩ := slice_mid (l := 9) (h := E) h (by omega) (by omega)
  replace q9 : ∀ W : World, (Instr.slice 49 (.slice (some ⟨bb, o, none⟩) n c) (some (.int .i64 9)) (some (.int .i64 (E : Int))) none).run Try.prog W = .ok (.slice s9 (E - 9) k9) W := fun W => q9 W
  replace q9' : ∀ W : World, (Instr.sliceAt 49 (.slice (some ⟨bb, o, none⟩) n c) (some (.int .i64 9)) (some (.int .i64 (E : Int))) none).run Try.prog W = .ok (.slice s9 (E - 9) k9) W := fun W => q9' W
  have B9 : Bytes w (.slice s9 (E - 9) k9) ((b.drop 9).take m) := by rw [show m = E - 9 by omega]; exact B9
  have H9 := hide B9
  have HL9 : Hid (((b.drop 9).take m).length ≤ 1048576) := by show _ ≤ _; rw [List.length_take]; omega
  clear hb0 h t1 t3 t4 hR ht B4 B9 hE hm hl t2
  go_enter Try.func80, Try.ntmps80
  go_wp2_with fail
  refine (toldLong_any _ n c b _ ((unhide HH).alloc _)).mono ?_
  rintro e w1 ⟨rfl, hw1⟩
  rw [← hw1] at HX HB0
  clear hw1
  rw [unhide HT4, unhide HT0]
  go_upto_region 4 with fail
  go_region_with (first
    | (go_at_call 84; refine (sum_any (.slice s4 (E - 4) k4) ((b.drop 4).take (5 + m)) _ (by exact (unhide H4).kept fun k _ hk => (unhide HB0).block k hk) (unhide HL4)).mono ?_; rintro e w3 ⟨rfl, hb3⟩; have HX3 : Hid (w3.heap[w.heap.size]? = some (.cells #[.int .u8 0, .slice none 0 0] 99 (0, 0))) := (hb3.block w.heap.size (Array.getElem?_eq_some_iff.1 (unhide HX)).1).trans (unhide HX); have HB3 : Hid (Below w.heap.size w w3) := (unhide HB0).drew.trans (hb3.mono (unhide HB0).size); clear hb3)
    | (go_at_call 93; refine (number_any _ n c b _ (by exact (unhide HH).kept fun k _ hk => (unhide HB0).block k hk) (by have := unhide HN9; omega)).mono ?_; rintro e w' ⟨rfl, rfl⟩)
    | (go_at_call 93; refine (number_any _ n c b _ (by exact (unhide HH).kept fun k _ hk => (unhide HB3).block k hk) (by have := unhide HN9; omega)).mono ?_; rintro e w' ⟨rfl, rfl⟩))
  all_goals (
    clear H4 q4 q4'
    generalize sumB ((b.drop 4).take (5 + m)) = S at *
    generalize le (b.take 4) = X at *
    have c0 : w3.cell? ⟨w.heap.size, 0, none⟩ = some (.int .u8 0) := cell_of_row _ _ 0 _ _ _ (unhide HX3)
    have c1 : w3.cell? ⟨w.heap.size, 1, none⟩ = some (.slice none 0 0) := cell_of_row _ _ 1 _ _ _ (unhide HX3)
    have f0 : w3.frozen? ⟨w.heap.size, 0, none⟩ = false := frozen_of_row _ _ _ _ _ (unhide HX3)
    have f1 : w3.frozen? ⟨w.heap.size, 1, none⟩ = false := frozen_of_row _ _ _ _ _ (unhide HX3)
    by_cases hs : S = X
    · subst hs
      rw [bne_self_eq_false]
      have c4 : w3.cell? ⟨bb, o + 4, none⟩ = some (.int .u8 ((b.getD 4 0).toNat : Nat)) := byte_at ((unhide HH).kept fun k _ hk => (unhide HB3).block k hk) (by have := unhide HN9; omega)
      obtain ⟨K, hK⟩ : ∃ K, K = (b.getD 4 0).toNat := ⟨_, rfl⟩
      rw [← hK] at c4 HRS
      have HK := hide hK
      clear hK
      go_wp2_with fail
      refine (isKind_any _ _).mono ?_
      rintro e w' ⟨rfl, hw'⟩
      rw [hw']
      clear hw'
      by_cases hk : 1 ≤ K ∧ K ≤ 2
      · rw [decide_eq_true hk]
        have HE : Hid (takeErr b = 0) := by show _ = _; rw [unhide HRS, if_neg (by simp), if_neg (by omega)]
        have HLn : Hid (takeLen b = E) := by show _ = _; unfold takeLen; rw [if_pos (unhide HE), ← unhide HM, ← unhide HEE]
        have HRc : Hid (takeRec b = ⟨b.getD 4 0, (b.drop 9).take m⟩) := by show _ = _; unfold takeRec; rw [if_pos (unhide HE), ← unhide HM]
        clear hk
        go_upto_region 8 with fail
        have HWL : Hid (w.heap.size < w3.heap.size) := (Array.getElem?_eq_some_iff.1 (unhide HX3)).1
        go_region_with (go_at_call 63; refine (cloneR_any (.slice s9 (E - 9) k9) ((b.drop 9).take m) _ (by exact (unhide H9).kept fun k _ hk => (unhide HB3).block k hk) (unhide HL9)).mono ?_; rintro e w5 ⟨a5, n5, c5, rfl, hF⟩; have HF := hide hF; have HX5 : Hid (w5.heap[w.heap.size]? = some (.cells #[.int .u8 0, .slice none 0 0] 99 (0, 0))) := (hF.1.2.2.block w.heap.size (unhide HWL)).trans (unhide HX3); have d4 : w5.cell? ⟨bb, o + 4, none⟩ = some (.int .u8 (K : Nat)) := (hF.1.2.2.cell (p := ⟨bb, o + 4, none⟩) (World.block_lt_of_cell? _ _ c4)).trans c4; have d0 : w5.cell? ⟨w.heap.size, 0, none⟩ = some (.int .u8 0) := cell_of_row _ _ 0 _ _ _ (unhide HX5); have d1 : w5.cell? ⟨w.heap.size, 1, none⟩ = some (.slice none 0 0) := cell_of_row _ _ 1 _ _ _ (unhide HX5); have e0 : w5.frozen? ⟨w.heap.size, 0, none⟩ = false := frozen_of_row _ _ _ _ _ (unhide HX5); have e1 : w5.frozen? ⟨w.heap.size, 1, none⟩ = false := frozen_of_row _ _ _ _ _ (unhide HX5); clear hF)
        all_goals (
          have HO5 : Hid (Own w (.slice a5 n5 c5) ((b.drop 9).take m) w5) := (unhide HF).own ((unhide HB3).drew)
          have HV5 : Hid (∀ k, (Value.slice a5 n5 c5).ownBlock = some k → w.heap.size < k) := fun k hk => by have h1 := ((unhide HF).1.2.1 k hk).1; have h2 := unhide HWL; have h3 : w3.heap.size ≤ k := h1; omega
          go_wp2_with fail
          refine bodyPost_ret (results_ctt rfl _ _ _ _ _ _ _ rfl (set2_heap (unhide HX5) _ _) Try.underlying99 rfl (by kernel_rfl)) rfl ?_
          refine ⟨a5, n5, c5, ?_, ?_⟩
          · rw [unhide HLn, unhide HRc, unhide HE, unhide HK]; rfl
          · rw [unhide HRc]
            exact ((unhide HO5).set2 (Nat.le_refl _) (unhide HV5) _ _).fresh)
      · rw [decide_eq_false hk]
        have HE : Hid (takeErr b = 30) := by show _ = _; rw [unhide HRS, if_neg (by simp), if_pos (by omega)]
        clear hk
        go_wp2_with fail
        refine bodyPost_ret (results_ctt rfl _ _ _ _ _ _ _ rfl (set2_heap (unhide HX3) _ _) Try.underlying99 rfl (by kernel_rfl)) rfl ?_
        exact took_none (unhide HE) (by decide) (set2_below (unhide HB3) (Nat.le_refl _) _ _)
    · have HE : Hid (takeErr b = 33) := by show _ = _; rw [unhide HRS, if_pos hs]
      have hs3 : (((X : Nat) : Int) != ((S : Nat) : Int)) = true := bne_iff_ne.2 fun e => hs (by omega)
      rw [hs3]
      clear hs hs3
      go_wp2_with fail
      refine bodyPost_ret (results_ctt rfl _ _ _ _ _ _ _ rfl (set2_heap (unhide HX3) _ _) Try.underlying99 rfl (by kernel_rfl)) rfl ?_
      exact took_none (unhide HE) (by decide) (set2_below (unhide HB3) (Nat.le_refl _) _ _))

theorem recTake_any (h : Bytes w (.slice a n c) b) : Calls Try.prog 80 #[.slice a n c] w fun e w' => TookAt w b e w' := by
  by_cases ht : toldErr b = 0
  · obtain ⟨bb, o, rfl⟩ := byte_spot h (by have := (told_ok ht).1; have := (bytes_len h).1; omega)
    exact recTake_rest n c b w bb o h ht
  · exact recTake_told a n c b w h ht
end
end Go.Proofs.Ytflfiobicapopaa
