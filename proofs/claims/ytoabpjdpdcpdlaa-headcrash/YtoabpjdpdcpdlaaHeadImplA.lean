/- What the small functions of package head answer. No statement of the seat is proved here. -/
import Derived.Test.YtoabpjdpdcpdlaaHeadPure
namespace Go.Proofs.Ytoabpjdpdcpdlaa
open Go.RowKit

theorem or_add64 (x y k : Nat) (h : x < 2 ^ k) : x ||| (2 ^ k * y) = x + 2 ^ k * y := by
  rw [Nat.or_comm, ← Nat.two_pow_add_eq_or_of_lt h, Nat.add_comm]

/-- The first bytes' number. -/
theorem le_take_succ8 (bs : List UInt8) (j : Nat) (h : j < bs.length) : le (bs.take (j + 1)) = le (bs.take j) + 2 ^ (8 * j) * (bs.getD j 0).toNat := by
  induction j generalizing bs with
  | zero =>
    match bs, h with
    | b :: bs, _ => simp [le]
  | succ j ih =>
    match bs, h with
    | b :: bs, h =>
      have h2 : j < bs.length := by simpa using h
      have e := ih bs h2
      show b.toNat + 256 * le (bs.take (j + 1)) = b.toNat + 256 * le (bs.take j) + 2 ^ (8 * (j + 1)) * (bs.getD j 0).toNat
      rw [e, Nat.mul_add, show 8 * (j + 1) = 8 + 8 * j by omega, Nat.pow_add, Nat.mul_assoc, Nat.add_assoc]

theorem number_step8 (bs : List UInt8) (j : Nat) (h : j < bs.length) (hj : j < 8) : bits .or .u64 ((le (bs.take j) : Nat) : Int) ((((bs.getD j 0).toNat * 2 ^ (8 * j) : Nat) : Int)) = ((le (bs.take (j + 1)) : Nat) : Int) := by
  have h1 := le_lt (bs.take j)
  have hl : (bs.take j).length = j := by rw [List.length_take]; omega
  rw [hl] at h1
  have hb := (bs.getD j 0).toNat_lt
  have h2 : le (bs.take j) < 18446744073709551616 := Nat.lt_of_lt_of_le h1 (by rw [show 18446744073709551616 = 2 ^ 64 by decide]; exact Nat.pow_le_pow_right (by decide) (by omega))
  have h3 : (bs.getD j 0).toNat * 2 ^ (8 * j) < 18446744073709551616 := by
    have : (bs.getD j 0).toNat * 2 ^ (8 * j) < 2 ^ 8 * 2 ^ (8 * j) := Nat.mul_lt_mul_of_pos_right (by omega) (Nat.two_pow_pos _)
    rw [← Nat.pow_add] at this
    exact Nat.lt_of_lt_of_le this (by rw [show 18446744073709551616 = 2 ^ 64 by decide]; exact Nat.pow_le_pow_right (by decide) (by omega))
  rw [le_take_succ8 bs j h]
  have := u64_or_nat (le (bs.take j)) ((bs.getD j 0).toNat * 2 ^ (8 * j)) h2 h3
  rw [this, Nat.mul_comm (bs.getD j 0).toNat, or_add64 _ _ _ h1]

set_option maxRecDepth 100000 in
set_option maxHeartbeats 4000000 in
theorem hNumber_any (a : Option Addr) (c : Nat) (bs : List UInt8) (w : World) (h : Bytes w (.slice a 8 c) bs) : Calls Try.prog 35 #[.slice a 8 c] w fun e w' => e = .returned (.int .u64 (le bs : Nat)) ∧ w' = w := by
  have hl := (bytes_len h).1
  have HL := hide hl
  obtain ⟨bb, o, rfl, hsp⟩ := h.spot (by omega)
  have HH := hide hsp
  have HT : Hid (bs.take 8 = bs) := by show _ = _; rw [List.take_of_length_le (by omega)]
  clear h hl hsp
  go_enter Try.func35, Try.ntmps35
  go_wp2_with fail
  go_loopw [3, 7] (fun x i W => ∃ j : Nat, j ≤ 8 ∧ i = .int .i64 j ∧ x = .int .u64 ((le (bs.take j) : Nat) : Int) ∧ W = w) (fun _ i _ => 8 - (intOf i).toNat)
  case atStart => exact ⟨0, by omega, rfl, by simp [le], rfl⟩
  case round =>
    obtain ⟨j, hj, rfl, rfl, rfl⟩ := hrel
    by_cases hlt : j < 8
    · have hc := unhide HH j (by omega)
      have HS := hide (number_step8 bs j (by have := unhide HL; omega) hlt)
      have hy := (bs.getD j 0).toNat_lt
      generalize (bs.getD j 0).toNat = y at *
      generalize le (bs.take j) = x at *
      rcases (show j = 0 ∨ j = 1 ∨ j = 2 ∨ j = 3 ∨ j = 4 ∨ j = 5 ∨ j = 6 ∨ j = 7 by omega) with rfl | rfl | rfl | rfl | rfl | rfl | rfl | rfl
      · rw [Nat.add_zero] at hc
        go_wp2_with fail
        exact ⟨⟨1, by omega, rfl, by rw [← unhide HS]; simp, trivial⟩, by simp [intOf]⟩
      · go_wp2_with fail
        exact ⟨⟨2, by omega, rfl, by rw [← unhide HS]; simp, trivial⟩, by simp [intOf]⟩
      · go_wp2_with fail
        exact ⟨⟨3, by omega, rfl, by rw [← unhide HS]; simp, trivial⟩, by simp [intOf]⟩
      · go_wp2_with fail
        exact ⟨⟨4, by omega, rfl, by rw [← unhide HS]; simp, trivial⟩, by simp [intOf]⟩
      · go_wp2_with fail
        exact ⟨⟨5, by omega, rfl, by rw [← unhide HS]; simp, trivial⟩, by simp [intOf]⟩
      · go_wp2_with fail
        exact ⟨⟨6, by omega, rfl, by rw [← unhide HS]; simp, trivial⟩, by simp [intOf]⟩
      · go_wp2_with fail
        exact ⟨⟨7, by omega, rfl, by rw [← unhide HS]; simp, trivial⟩, by simp [intOf]⟩
      · go_wp2_with fail
        exact ⟨⟨8, by omega, rfl, by rw [← unhide HS]; simp, trivial⟩, by simp [intOf]⟩
    · have e : j = 8 := by omega
      subst e
      rw [unhide HT]
      go_wp2_with fail
      go_ret
      exact ⟨rfl, rfl⟩

/-- An array of bytes in a block that is new since w0. -/
structure Arr (w0 : World) (g : Nat) (bs : List UInt8) (W : World) : Prop where
  blk : W.heap[g]? = some (.cells (bs.map bv).toArray 65 (0, 0))
  new : w0.heap.size ≤ g
  bb : Below w0.heap.size w0 W
theorem Arr.lt {w0 W : World} {g : Nat} {bs : List UInt8} (h : Arr w0 g bs W) : g < W.heap.size := (Array.getElem?_eq_some_iff.1 h.blk).1
theorem Arr.later {w0 W W' : World} {g : Nat} {bs : List UInt8} (h : Arr w0 g bs W) (hb : Below W.heap.size W W') : Arr w0 g bs W' := ⟨(hb.block _ h.lt).trans h.blk, h.new, h.bb.trans (hb.mono h.bb.size)⟩
theorem Arr.drew {w0 W : World} {g : Nat} {bs : List UInt8} (h : Arr w0 g bs W) : Arr w0 g bs W.drew := h.later (Below.refl _ W).drew
theorem Arr.drewN {w0 W : World} {g : Nat} {bs : List UInt8} (h : Arr w0 g bs W) (n : Nat) : Arr w0 g bs (W.drewN n) := h.later (below_drewN W n)
theorem Arr.alloc {w0 W : World} {g : Nat} {bs : List UInt8} (h : Arr w0 g bs W) (o : Obj) : Arr w0 g bs (W.alloc o) := h.later ((Below.refl _ W).alloc (Nat.le_refl _) _)
theorem Arr.cell {w0 W : World} {g : Nat} {bs : List UInt8} (h : Arr w0 g bs W) {k : Nat} (hk : k < bs.length) : W.cell? ⟨g, k, none⟩ = some (.int .u8 ((bs.getD k 0).toNat : Nat)) :=
  cell_of_row _ _ k _ _ _ h.blk |>.trans (by simp [hk, bv])
theorem Arr.frozen {w0 W : World} {g : Nat} {bs : List UInt8} (h : Arr w0 g bs W) (k : Nat) : W.frozen? ⟨g, k, none⟩ = false := frozen_of_row _ _ _ _ _ h.blk
theorem Arr.put {w0 W : World} {g : Nat} {bs : List UInt8} (h : Arr w0 g bs W) {k : Nat} (_hk : k < bs.length) (y : Nat) (hy : y < 256) : Arr w0 g (bs.set k (UInt8.ofNat y)) (W.setCell ⟨g, k, none⟩ (.int .u8 ((y : Nat) : Int))) := by
  refine ⟨?_, h.new, h.bb.setCell (p := ⟨g, k, none⟩) h.new _⟩
  have e := heap_setCell_same W g k _ _ (.int .u8 ((y : Nat) : Int)) h.blk
  rw [e, List.map_set]
  have e2 : bv (UInt8.ofNat y) = .int .u8 ((y : Nat) : Int) := by unfold bv; rw [UInt8.toNat_ofNat', Nat.mod_eq_of_lt (by simpa using hy)]
  rw [e2]
  congr 2
  simp
theorem Arr.range {w0 W : World} {g : Nat} {bs : List UInt8} (h : Arr w0 g bs W) : W.rangeAt g 0 (bs.map bv) := fun j v hv => by
  rw [Nat.zero_add, cell_of_row _ _ j _ _ _ h.blk]
  simpa using hv
theorem Arr.there {w0 W : World} {g : Nat} {bs : List UInt8} (h : Arr w0 g bs W) {o n : Nat} (hn : o + n ≤ bs.length) : W.there g o n := fun j hj =>
  ⟨by rw [h.cell (k := o + j) (by omega)]; rfl, h.frozen _⟩
/-- A slice of it, read. -/
theorem Arr.bytes {w0 W : World} {g : Nat} {bs : List UInt8} (h : Arr w0 g bs W) {o n c : Nat} (hn : o + n ≤ bs.length) (hc : n ≤ c) (hm : c ≤ maxLen) : Bytes W (.slice (some ⟨g, o, none⟩) n c) ((bs.drop o).take n) := by
  have hl : ((bs.drop o).take n).length = n := by rw [List.length_take, List.length_drop]; omega
  refine .inr ⟨⟨g, o, none⟩, c, by rw [hl], by omega, hm, fun j x hx => ?_⟩
  rw [Addr.add_mid]
  have hj : j < n := by
    have := (List.getElem?_eq_some_iff.1 hx).1
    rw [List.length_map, hl] at this
    exact this
  refine Arr.range h (o + j) x ?_ |> fun e => by rwa [Nat.zero_add] at e
  rw [List.map_take, List.map_drop, List.getElem?_take, if_pos hj, List.getElem?_drop] at hx
  exact hx

/-- A row with the first j bytes of a number from place o on. -/
def eightAt (bs : List UInt8) (o n : Nat) : Nat → List UInt8
  | 0 => bs
  | j + 1 => (eightAt bs o n j).set (o + j) (UInt8.ofNat (n / 256 ^ j % 256))
theorem eightAt_len (bs : List UInt8) (o n j : Nat) : (eightAt bs o n j).length = bs.length := by
  induction j with
  | zero => rfl
  | succ j ih => rw [eightAt, List.length_set, ih]

set_option maxRecDepth 100000 in
set_option maxHeartbeats 4000000 in
theorem hPut_any {w0 w : World} {g : Nat} {bs : List UInt8} (h : Arr w0 g bs w) (o S : Nat) (hS : S < 18446744073709551616) (ho : o + 8 ≤ bs.length) :
    Calls Try.prog 59 #[.slice (some ⟨g, o, none⟩) 8 8, .int .u64 (S : Nat)] w fun e w' => e = .returned (.tuple #[]) ∧ Arr w0 g (eightAt bs o S 8) w' := by
  have HO := hide h
  clear h
  go_enter Try.func59, Try.ntmps59
  go_wp2_with fail
  go_loopw [7] (fun i W => ∃ j : Nat, j ≤ 8 ∧ i = .int .i64 j ∧ Arr w0 g (eightAt bs o S j) W) (fun i _ => 8 - (intOf i).toNat)
  case atStart => exact ⟨0, by omega, rfl, unhide HO⟩
  case round =>
    obtain ⟨j, hj, rfl, hO⟩ := hrel
    by_cases hlt : j < 8
    · have hk : o + j < (eightAt bs o S j).length := by rw [eightAt_len]; omega
      have hc := hO.cell hk
      have hf := hO.frozen (o + j)
      have HP := hide (hO.put hk)
      clear hO hk
      generalize (((eightAt bs o S j).getD (o + j) 0).toNat : Nat) = x at hc
      rcases (show j = 0 ∨ j = 1 ∨ j = 2 ∨ j = 3 ∨ j = 4 ∨ j = 5 ∨ j = 6 ∨ j = 7 by omega) with rfl | rfl | rfl | rfl | rfl | rfl | rfl | rfl
      · rw [Nat.add_zero] at hc hf HP
        go_wp2_with fail
        have h2 := unhide HP (S / 256 ^ 0 % 256) (by omega)
        exact ⟨⟨1, by omega, rfl, by simpa [eightAt] using h2⟩, by simp [intOf]⟩
      · go_wp2_with fail
        have h2 := unhide HP (S / 256 ^ 1 % 256) (by omega)
        rw [show ((S / 256 ^ 1 % 256 : Nat) : Int) = (S : Int) / 256 % 256 by omega] at h2
        exact ⟨⟨2, by omega, rfl, h2⟩, by simp [intOf]⟩
      · go_wp2_with fail
        have h2 := unhide HP (S / 256 ^ 2 % 256) (by omega)
        rw [show ((S / 256 ^ 2 % 256 : Nat) : Int) = (S : Int) / 65536 % 256 by omega] at h2
        exact ⟨⟨3, by omega, rfl, h2⟩, by simp [intOf]⟩
      · go_wp2_with fail
        have h2 := unhide HP (S / 256 ^ 3 % 256) (by omega)
        rw [show ((S / 256 ^ 3 % 256 : Nat) : Int) = (S : Int) / 16777216 % 256 by omega] at h2
        exact ⟨⟨4, by omega, rfl, h2⟩, by simp [intOf]⟩
      · go_wp2_with fail
        have h2 := unhide HP (S / 256 ^ 4 % 256) (by omega)
        rw [show ((S / 256 ^ 4 % 256 : Nat) : Int) = (S : Int) / 4294967296 % 256 by omega] at h2
        exact ⟨⟨5, by omega, rfl, h2⟩, by simp [intOf]⟩
      · go_wp2_with fail
        have h2 := unhide HP (S / 256 ^ 5 % 256) (by omega)
        rw [show ((S / 256 ^ 5 % 256 : Nat) : Int) = (S : Int) / 1099511627776 % 256 by omega] at h2
        exact ⟨⟨6, by omega, rfl, h2⟩, by simp [intOf]⟩
      · go_wp2_with fail
        have h2 := unhide HP (S / 256 ^ 6 % 256) (by omega)
        rw [show ((S / 256 ^ 6 % 256 : Nat) : Int) = (S : Int) / 281474976710656 % 256 by omega] at h2
        exact ⟨⟨7, by omega, rfl, h2⟩, by simp [intOf]⟩
      · go_wp2_with fail
        have h2 := unhide HP (S / 256 ^ 7 % 256) (by omega)
        rw [show ((S / 256 ^ 7 % 256 : Nat) : Int) = (S : Int) / 72057594037927936 by omega] at h2
        exact ⟨⟨8, by omega, rfl, h2⟩, by simp [intOf]⟩
    · have e : j = 8 := by omega
      subst e
      go_wp2_with fail
      go_end0
      exact ⟨rfl, hO⟩

set_option maxHeartbeats 2000000 in
theorem hRight_any (s e l : Nat) (w : World) (hf : (HeadD.mk s e l).fits) : Calls Try.prog 17 #[.agg #[.int .u64 ((s : Nat) : Int), .int .u64 ((e : Nat) : Int), .int .u8 ((l : Nat) : Int)]] w fun e' w' => e' = .returned (.bool (HeadD.mk s e l).right) ∧ Below w.heap.size w w' := by
  have HB := hide ((Below.refl _ w).alloc (Nat.le_refl _) (.cells #[.int .u64 ((s : Nat) : Int), .int .u64 ((e : Nat) : Int), .int .u8 ((l : Nat) : Int)] 24))
  have hl := hf.2.2
  simp only at hl
  have hR : (HeadD.mk s e l).right = (decide (s ≠ 0) && decide (l < 2)) := by
    rw [Bool.eq_iff_iff, HeadD.right_iff, Bool.and_eq_true, decide_eq_true_iff, decide_eq_true_iff]
    constructor <;> (rintro ⟨a, b⟩; exact ⟨a, by simp only at *; omega⟩)
  rw [hR]
  clear hR hf
  by_cases h0 : s = 0
  · have g : ¬ (s : Int) > 0 := by omega
    rw [decide_eq_false (by omega), Bool.false_and]
    clear h0
    go_enter Try.func17, Try.ntmps17
    go_wp2
    go_ret
    exact ⟨rfl, unhide HB⟩
  · have g : (s : Int) > 0 := by omega
    rw [decide_eq_true h0, Bool.true_and]
    clear h0
    by_cases h1 : l < 2
    · have g1 : (l : Int) < 2 := by omega
      rw [decide_eq_true h1]
      clear h1
      go_enter Try.func17, Try.ntmps17
      go_wp2
      go_ret
      exact ⟨rfl, unhide HB⟩
    · have g1 : ¬ (l : Int) < 2 := by omega
      rw [decide_eq_false h1]
      clear h1
      go_enter Try.func17, Try.ntmps17
      go_wp2
      go_ret
      exact ⟨rfl, unhide HB⟩

set_option maxHeartbeats 2000000 in
theorem hSlot_any (s e l : Nat) (w : World) (hf : (HeadD.mk s e l).fits) : Calls Try.prog 37 #[.agg #[.int .u64 ((s : Nat) : Int), .int .u64 ((e : Nat) : Int), .int .u8 ((l : Nat) : Int)]] w fun e' w' => e' = .returned (.int .i64 ((s % 2 : Nat) : Int)) ∧ Below w.heap.size w w' := by
  have HB := hide ((Below.refl _ w).alloc (Nat.le_refl _) (.cells #[.int .u64 ((s : Nat) : Int), .int .u64 ((e : Nat) : Int), .int .u8 ((l : Nat) : Int)] 24))
  have hs := hf.1
  simp only at hs
  clear hf
  go_enter Try.func37, Try.ntmps37
  go_wp2
  go_ret
  exact ⟨ret_int (by omega), unhide HB⟩
end Go.Proofs.Ytoabpjdpdcpdlaa
