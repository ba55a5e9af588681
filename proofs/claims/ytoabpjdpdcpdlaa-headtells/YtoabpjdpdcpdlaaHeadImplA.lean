/- What the small functions of package head answer. No statement of the seat is proved here. -/
import Derived.Test.YtoabpjdpdcpdlaaHeadPure
namespace Go.Proofs.Ytoabpjdpdcpdlaa
open Go.RowKit

theorem or_add64 (x y k : Nat) (h : x < 2 ^ k) : x ||| (2 ^ k * y) = x + 2 ^ k * y := by
  rw [Nat.or_comm, ← Nat.two_pow_add_eq_or_of_lt h, Nat.add_comm]

/-- The first bytes' number. -/
theorem le_take_succ8 (bs : List UInt8) (j : Nat) (h : j < bs.length) : le (bs.take (j + 1)) = le (bs.take j) + 2 ^ (8 * j) * (bs.getD j 0).toNat := by
  induction j generalizing bs with
  | zero =>
    match bs, h with
    | b :: bs, _ => simp [le]
  | succ j ih =>
    match bs, h with
    | b :: bs, h =>
      have h2 : j < bs.length := by simpa using h
      have e := ih bs h2
      show b.toNat + 256 * le (bs.take (j + 1)) = b.toNat + 256 * le (bs.take j) + 2 ^ (8 * (j + 1)) * (bs.getD j 0).toNat
      rw [e, Nat.mul_add, show 8 * (j + 1) = 8 + 8 * j by omega, Nat.pow_add, Nat.mul_assoc, Nat.add_assoc]

theorem number_step8 (bs : List UInt8) (j : Nat) (h : j < bs.length) (hj : j < 8) : bits .or .u64 ((le (bs.take j) : Nat) : Int) ((((bs.getD j 0).toNat * 2 ^ (8 * j) : Nat) : Int)) = ((le (bs.take (j + 1)) : Nat) : Int) := by
  have h1 := le_lt (bs.take j)
  have hl : (bs.take j).length = j := by rw [List.length_take]; omega
  rw [hl] at h1
  have hb := (bs.getD j 0).toNat_lt
  have h2 : le (bs.take j) < 18446744073709551616 := Nat.lt_of_lt_of_le h1 (by rw [show 18446744073709551616 = 2 ^ 64 by decide]; exact Nat.pow_le_pow_right (by decide) (by omega))
  have h3 : (bs.getD j 0).toNat * 2 ^ (8 * j) < 18446744073709551616 := by
    have : (bs.getD j 0).toNat * 2 ^ (8 * j) < 2 ^ 8 * 2 ^ (8 * j) := Nat.mul_lt_mul_of_pos_right (by omega) (Nat.two_pow_pos _)
    rw [← Nat.pow_add] at this
    exact Nat.lt_of_lt_of_le this (by rw [show 18446744073709551616 = 2 ^ 64 by decide]; exact Nat.pow_le_pow_right (by decide) (by omega))
  rw [le_take_succ8 bs j h]
  have := u64_or_nat (le (bs.take j)) ((bs.getD j 0).toNat * 2 ^ (8 * j)) h2 h3
  rw [this, Nat.mul_comm (bs.getD j 0).toNat, or_add64 _ _ _ h1]

set_option maxRecDepth 100000 in
set_option maxHeartbeats 4000000 in
theorem hNumber_any (a : Option Addr) (c : Nat) (bs : List UInt8) (w : World) (h : Bytes w (.slice a 8 c) bs) : Calls Try.prog 35 #[.slice a 8 c] w fun e w' => e = .returned (.int .u64 (le bs : Nat)) ∧ w' = w := by
  have hl := (bytes_len h).1
  have HL := hide hl
  obtain ⟨bb, o, rfl, hsp⟩ := h.spot (by omega)
  have HH := hide hsp
  have HT : Hid (bs.take 8 = bs) := by show _ = _; rw [List.take_of_length_le (by omega)]
  clear h hl hsp
  go_enter Try.func35, Try.ntmps35
  go_wp2_with fail
  go_loopw [3, 7] (fun x i W => ∃ j : Nat, j ≤ 8 ∧ i = .int .i64 j ∧ x = .int .u64 ((le (bs.take j) : Nat) : Int) ∧ W = w) (fun _ i _ => 8 - (intOf i).toNat)
  case atStart => exact ⟨0, by omega, rfl, by simp [le], rfl⟩
  case round =>
    obtain ⟨j, hj, rfl, rfl, rfl⟩ := hrel
    by_cases hlt : j < 8
    · have hc := unhide HH j (by omega)
      have HS := hide (number_step8 bs j (by have := unhide HL; omega) hlt)
      have hy := (bs.getD j 0).toNat_lt
      generalize (bs.getD j 0).toNat = y at *
      generalize le (bs.take j) = x at *
      rcases (show j = 0 ∨ j = 1 ∨ j = 2 ∨ j = 3 ∨ j = 4 ∨ j = 5 ∨ j = 6 ∨ j = 7 by omega) with rfl | rfl | rfl | rfl | rfl | rfl | rfl | rfl
      · rw [Nat.add_zero] at hc
        go_wp2_with fail
        exact ⟨⟨1, by omega, rfl, by rw [← unhide HS]; simp, trivial⟩, by simp [intOf]⟩
      · go_wp2_with fail
        exact ⟨⟨2, by omega, rfl, by rw [← unhide HS]; simp, trivial⟩, by simp [intOf]⟩
      · go_wp2_with fail
        exact ⟨⟨3, by omega, rfl, by rw [← unhide HS]; simp, trivial⟩, by simp [intOf]⟩
      · go_wp2_with fail
        exact ⟨⟨4, by omega, rfl, by rw [← unhide HS]; simp, trivial⟩, by simp [intOf]⟩
      · go_wp2_with fail
        exact ⟨⟨5, by omega, rfl, by rw [← unhide HS]; simp, trivial⟩, by simp [intOf]⟩
      · go_wp2_with fail
        exact ⟨⟨6, by omega, rfl, by rw [← unhide HS]; simp, trivial⟩, by simp [intOf]⟩
      · go_wp2_with fail
        exact ⟨⟨7, by omega, rfl, by rw [← unhide HS]; simp, trivial⟩, by simp [intOf]⟩
      · go_wp2_with fail
        exact ⟨⟨8, by omega, rfl, by rw [← unhide HS]; simp, trivial⟩, by simp [intOf]⟩
    · have e : j = 8 := by omega
      subst e
      rw [unhide HT]
      go_wp2_with fail
      go_ret
      exact ⟨rfl, rfl⟩

/-- An array of bytes in a block that is new since w0. -/
structure Arr (w0 : World) (g : Nat) (bs : List UInt8) (W : World) : Prop where
  blk : W.heap[g]? = some (.cells (bs.map bv).toArray 65 (0, 0))
  new : w0.heap.size ≤ g
  bb : Below w0.heap.size w0 W
theorem Arr.lt {w0 W : World} {g : Nat} {bs : List UInt8} (h : Arr w0 g bs W) : g < W.heap.size := (Array.getElem?_eq_some_iff.1 h.blk).1
theorem Arr.later {w0 W W' : World} {g : Nat} {bs : List UInt8} (h : Arr w0 g bs W) (hb : Below W.heap.size W W') : Arr w0 g bs W' := ⟨(hb.block _ h.lt).trans h.blk, h.new, h.bb.trans (hb.mono h.bb.size)⟩
theorem Arr.drew {w0 W : World} {g : Nat} {bs : List UInt8} (h : Arr w0 g bs W) : Arr w0 g bs W.drew := h.later (Below.refl _ W).drew
theorem Arr.drewN {w0 W : World} {g : Nat} {bs : List UInt8} (h : Arr w0 g bs W) (n : Nat) : Arr w0 g bs (W.drewN n) := h.later (below_drewN W n)
theorem Arr.alloc {w0 W : World} {g : Nat} {bs : List UInt8} (h : Arr w0 g bs W) (o : Obj) : Arr w0 g bs (W.alloc o) := h.later ((Below.refl _ W).alloc (Nat.le_refl _) _)
theorem Arr.cell {w0 W : World} {g : Nat} {bs : List UInt8} (h : Arr w0 g bs W) {k : Nat} (hk : k < bs.length) : W.cell? ⟨g, k, none⟩ = some (.int .u8 ((bs.getD k 0).toNat : Nat)) :=
  cell_of_row _ _ k _ _ _ h.blk |>.trans (by simp [hk, bv])
theorem Arr.frozen {w0 W : World} {g : Nat} {bs : List UInt8} (h : Arr w0 g bs W) (k : Nat) : W.frozen? ⟨g, k, none⟩ = false := frozen_of_row _ _ _ _ _ h.blk
theorem Arr.put {w0 W : World} {g : Nat} {bs : List UInt8} (h : Arr w0 g bs W) {k : Nat} (_hk : k < bs.length) (y : Nat) (hy : y < 256) : Arr w0 g (bs.set k (UInt8.ofNat y)) (W.setCell ⟨g, k, none⟩ (.int .u8 ((y : Nat) : Int))) := by
  refine ⟨?_, h.new, h.bb.setCell (p := ⟨g, k, none⟩) h.new _⟩
  have e := heap_setCell_same W g k _ _ (.int .u8 ((y : Nat) : Int)) h.blk
  rw [e, List.map_set]
  have e2 : bv (UInt8.ofNat y) = .int .u8 ((y : Nat) : Int) := by unfold bv; rw [UInt8.toNat_ofNat', Nat.mod_eq_of_lt (by simpa using hy)]
  rw [e2]
  congr 2
  simp
theorem Arr.range {w0 W : World} {g : Nat} {bs : List UInt8} (h : Arr w0 g bs W) : W.rangeAt g 0 (bs.map bv) := fun j v hv => by
  rw [Nat.zero_add, cell_of_row _ _ j _ _ _ h.blk]
  simpa using hv
theorem Arr.there {w0 W : World} {g : Nat} {bs : List UInt8} (h : Arr w0 g bs W) {o n : Nat} (hn : o + n ≤ bs.length) : W.there g o n := fun j hj =>
  ⟨by rw [h.cell (k := o + j) (by omega)]; rfl, h.frozen _⟩
/-- A slice of it, read. -/
theorem Arr.bytes {w0 W : World} {g : Nat} {bs : List UInt8} (h : Arr w0 g bs W) {o n c : Nat} (hn : o + n ≤ bs.length) (hc : n ≤ c) (hm : c ≤ maxLen) : Bytes W (.slice (some ⟨g, o, none⟩) n c) ((bs.drop o).take n) := by
  have hl : ((bs.drop o).take n).length = n := by rw [List.length_take, List.length_drop]; omega
  refine .inr ⟨⟨g, o, none⟩, c, by rw [hl], by omega, hm, fun j x hx => ?_⟩
  rw [Addr.add_mid]
  have hj : j < n := by
    have := (List.getElem?_eq_some_iff.1 hx).1
    rw [List.length_map, hl] at this
    exact this
  refine Arr.range h (o + j) x ?_ |> fun e => by rwa [Nat.zero_add] at e
  rw [List.map_take, List.map_drop, List.getElem?_take, if_pos hj, List.getElem?_drop] at hx
  exact hx

/-- A row with the first j bytes of a number from place o on. -/
def eightAt (bs : List UInt8) (o n : Nat) : Nat → List UInt8
  | 0 => bs
  | j + 1 => (eightAt bs o n j).set (o + j) (UInt8.ofNat (n / 256 ^ j % 256))
theorem eightAt_len (bs : List UInt8) (o n j : Nat) : (eightAt bs o n j).length = bs.length := by
  induction j with
  | zero => rfl
  | succ j ih => rw [eightAt, List.length_set, ih]

set_option maxRecDepth 100000 in
set_option maxHeartbeats 4000000 in
theorem hPut_any {w0 w : World} {g : Nat} {bs : List UInt8} (h : Arr w0 g bs w) (o S : Nat) (hS : S < 18446744073709551616) (ho : o + 8 ≤ bs.length) :
    Calls Try.prog 59 #[.slice (some ⟨g, o, none⟩) 8 8, .int .u64 (S : Nat)] w fun e w' => e = .returned (.tuple #[]) ∧ Arr w0 g (eightAt bs o S 8) w' := by
  have HO := hide h
  clear h
  go_enter Try.func59, Try.ntmps59
  go_wp2_with fail
  go_loopw [7] (fun i W => ∃ j : Nat, j ≤ 8 ∧ i = .int .i64 j ∧ Arr w0 g (eightAt bs o S j) W) (fun i _ => 8 - (intOf i).toNat)
  case atStart => exact ⟨0, by omega, rfl, unhide HO⟩
  case round =>
    obtain ⟨j, hj, rfl, hO⟩ := hrel
    by_cases hlt : j < 8
    · have hk : o + j < (eightAt bs o S j).length := by rw [eightAt_len]; omega
      have hc := hO.cell hk
      have hf := hO.frozen (o + j)
      have HP := hide (hO.put hk)
      clear hO hk
      generalize (((eightAt bs o S j).getD (o + j) 0).toNat : Nat) = x at hc
      rcases (show j = 0 ∨ j = 1 ∨ j = 2 ∨ j = 3 ∨ j = 4 ∨ j = 5 ∨ j = 6 ∨ j = 7 by omega) with rfl | rfl | rfl | rfl | rfl | rfl | rfl | rfl
      · rw [Nat.add_zero] at hc hf HP
        go_wp2_with fail
        have h2 := unhide HP (S / 256 ^ 0 % 256) (by omega)
        exact ⟨⟨1, by omega, rfl, by simpa [eightAt] using h2⟩, by simp [intOf]⟩
      · go_wp2_with fail
        have h2 := unhide HP (S / 256 ^ 1 % 256) (by omega)
        rw [show ((S / 256 ^ 1 % 256 : Nat) : Int) = (S : Int) / 256 % 256 by omega] at h2
        exact ⟨⟨2, by omega, rfl, h2⟩, by simp [intOf]⟩
      · go_wp2_with fail
        have h2 := unhide HP (S / 256 ^ 2 % 256) (by omega)
        rw [show ((S / 256 ^ 2 % 256 : Nat) : Int) = (S : Int) / 65536 % 256 by omega] at h2
        exact ⟨⟨3, by omega, rfl, h2⟩, by simp [intOf]⟩
      · go_wp2_with fail
        have h2 := unhide HP (S / 256 ^ 3 % 256) (by omega)
        rw [show ((S / 256 ^ 3 % 256 : Nat) : Int) = (S : Int) / 16777216 % 256 by omega] at h2
        exact ⟨⟨4, by omega, rfl, h2⟩, by simp [intOf]⟩
      · go_wp2_with fail
        have h2 := unhide HP (S / 256 ^ 4 % 256) (by omega)
        rw [show ((S / 256 ^ 4 % 256 : Nat) : Int) = (S : Int) / 4294967296 % 256 by omega] at h2
        exact ⟨⟨5, by omega, rfl, h2⟩, by simp [intOf]⟩
      · go_wp2_with fail
        have h2 := unhide HP (S / 256 ^ 5 % 256) (by omega)
        rw [show ((S / 256 ^ 5 % 256 : Nat) : Int) = (S : Int) / 1099511627776 % 256 by omega] at h2
        exact ⟨⟨6, by omega, rfl, h2⟩, by simp [intOf]⟩
      · go_wp2_with fail
        have h2 := unhide HP (S / 256 ^ 6 % 256) (by omega)
        rw [show ((S / 256 ^ 6 % 256 : Nat) : Int) = (S : Int) / 281474976710656 % 256 by omega] at h2
        exact ⟨⟨7, by omega, rfl, h2⟩, by simp [intOf]⟩
      · go_wp2_with fail
        have h2 := unhide HP (S / 256 ^ 7 % 256) (by omega)
        rw [show ((S / 256 ^ 7 % 256 : Nat) : Int) = (S : Int) / 72057594037927936 by omega] at h2
        exact ⟨⟨8, by omega, rfl, h2⟩, by simp [intOf]⟩
    · have e : j = 8 := by omega
      subst e
      go_wp2_with fail
      go_end0
      exact ⟨rfl, hO⟩

set_option maxHeartbeats 2000000 in
theorem hRight_any (s e l : Nat) (w : World) (hf : (HeadD.mk s e l).fits) : Calls Try.prog 17 #[.agg #[.int .u64 ((s : Nat) : Int), .int .u64 ((e : Nat) : Int), .int .u8 ((l : Nat) : Int)]] w fun e' w' => e' = .returned (.bool (HeadD.mk s e l).right) ∧ Below w.heap.size w w' := by
  have HB := hide ((Below.refl _ w).alloc (Nat.le_refl _) (.cells #[.int .u64 ((s : Nat) : Int), .int .u64 ((e : Nat) : Int), .int .u8 ((l : Nat) : Int)] 24))
  have hl := hf.2.2
  simp only at hl
  have hR : (HeadD.mk s e l).right = (decide (s ≠ 0) && decide (l < 2)) := by
    rw [Bool.eq_iff_iff, HeadD.right_iff, Bool.and_eq_true, decide_eq_true_iff, decide_eq_true_iff]
    constructor <;> (rintro ⟨a, b⟩; exact ⟨a, by simp only at *; omega⟩)
  rw [hR]
  clear hR hf
  by_cases h0 : s = 0
  · have g : ¬ (s : Int) > 0 := by omega
    rw [decide_eq_false (by omega), Bool.false_and]
    clear h0
    go_enter Try.func17, Try.ntmps17
    go_wp2
    go_ret
    exact ⟨rfl, unhide HB⟩
  · have g : (s : Int) > 0 := by omega
    rw [decide_eq_true h0, Bool.true_and]
    clear h0
    by_cases h1 : l < 2
    · have g1 : (l : Int) < 2 := by omega
      rw [decide_eq_true h1]
      clear h1
      go_enter Try.func17, Try.ntmps17
      go_wp2
      go_ret
      exact ⟨rfl, unhide HB⟩
    · have g1 : ¬ (l : Int) < 2 := by omega
      rw [decide_eq_false h1]
      clear h1
      go_enter Try.func17, Try.ntmps17
      go_wp2
      go_ret
      exact ⟨rfl, unhide HB⟩

set_option maxHeartbeats 2000000 in
theorem hSlot_any (s e l : Nat) (w : World) (hf : (HeadD.mk s e l).fits) : Calls Try.prog 37 #[.agg #[.int .u64 ((s : Nat) : Int), .int .u64 ((e : Nat) : Int), .int .u8 ((l : Nat) : Int)]] w fun e' w' => e' = .returned (.int .i64 ((s % 2 : Nat) : Int)) ∧ Below w.heap.size w w' := by
  have HB := hide ((Below.refl _ w).alloc (Nat.le_refl _) (.cells #[.int .u64 ((s : Nat) : Int), .int .u64 ((e : Nat) : Int), .int .u8 ((l : Nat) : Int)] 24))
  have hs := hf.1
  simp only at hs
  clear hf
  go_enter Try.func37, Try.ntmps37
  go_wp2
  go_ret
  exact ⟨ret_int (by omega), unhide HB⟩
end Go.Proofs.Ytoabpjdpdcpdlaa

namespace Go.Proofs.Ytoabpjdpdcpdlaa
open Go.RowKit

theorem laid_list (s e l : Nat) : eightAt ((eightAt (eightAt (List.replicate 32 0) 0 s 8) 8 e 8).set 16 (UInt8.ofNat l)) 24 s 8 = (HeadD.mk s e l).bytes := by
  simp [eightAt, HeadD.bytes, eight, List.replicate, List.range, List.range.loop]

theorem z32_eq : (#[.int .u8 0, .int .u8 0, .int .u8 0, .int .u8 0, .int .u8 0, .int .u8 0, .int .u8 0, .int .u8 0, .int .u8 0, .int .u8 0, .int .u8 0, .int .u8 0, .int .u8 0, .int .u8 0, .int .u8 0, .int .u8 0, .int .u8 0, .int .u8 0, .int .u8 0, .int .u8 0, .int .u8 0, .int .u8 0, .int .u8 0, .int .u8 0, .int .u8 0, .int .u8 0, .int .u8 0, .int .u8 0, .int .u8 0, .int .u8 0, .int .u8 0, .int .u8 0] : Array Value) = ((List.replicate 32 (0 : UInt8)).map bv).toArray := by rfl
theorem Arr.start (X : World) (g : Nat) (hg : X.heap.size = g) : Arr X g (List.replicate 32 0) (X.alloc (.cells #[.int .u8 0, .int .u8 0, .int .u8 0, .int .u8 0, .int .u8 0, .int .u8 0, .int .u8 0, .int .u8 0, .int .u8 0, .int .u8 0, .int .u8 0, .int .u8 0, .int .u8 0, .int .u8 0, .int .u8 0, .int .u8 0, .int .u8 0, .int .u8 0, .int .u8 0, .int .u8 0, .int .u8 0, .int .u8 0, .int .u8 0, .int .u8 0, .int .u8 0, .int .u8 0, .int .u8 0, .int .u8 0, .int .u8 0, .int .u8 0, .int .u8 0, .int .u8 0] 65)) := by
  subst hg
  refine ⟨?_, Nat.le_refl _, (Below.refl _ X).alloc (Nat.le_refl _) _⟩
  rw [heap_alloc_new, z32_eq]

theorem info32 : (Try.prog.info? 65).map (·.size) = some 32 := by kernel_rfl
theorem below_setRow {B : Nat} (w : World) (g : Nat) (cs : Array Value) (h : B ≤ g) : Below B w (w.setRow g cs) :=
  ⟨rfl, rfl, rfl, by simp [World.setRow], fun k hk => setRow_other _ _ _ _ (by omega)⟩

set_option maxRecDepth 100000 in
set_option maxHeartbeats 4000000 in
theorem hLaid_any (s e l : Nat) (w : World) (hf : (HeadD.mk s e l).fits) : Calls Try.prog 33 #[.agg #[.int .u64 ((s : Nat) : Int), .int .u64 ((e : Nat) : Int), .int .u8 ((l : Nat) : Int)]] w fun e' w' => e' = .returned (.agg (((HeadD.mk s e l).bytes).map bv).toArray) ∧ Below w.heap.size w w' := by
  obtain ⟨X, hX⟩ : ∃ X, X = (w.alloc (.cells #[.int .u64 ((s : Nat) : Int), .int .u64 ((e : Nat) : Int), .int .u8 ((l : Nat) : Int)] 24)).alloc (.cells #[.int .u8 0, .int .u8 0, .int .u8 0, .int .u8 0, .int .u8 0, .int .u8 0, .int .u8 0, .int .u8 0, .int .u8 0, .int .u8 0, .int .u8 0, .int .u8 0, .int .u8 0, .int .u8 0, .int .u8 0, .int .u8 0, .int .u8 0, .int .u8 0, .int .u8 0, .int .u8 0, .int .u8 0, .int .u8 0, .int .u8 0, .int .u8 0, .int .u8 0, .int .u8 0, .int .u8 0, .int .u8 0, .int .u8 0, .int .u8 0, .int .u8 0, .int .u8 0] 65) := ⟨_, rfl⟩
  have hXs : X.heap.size = w.heap.size + 1 + 1 := by rw [hX]; simp
  have HX0 : Hid (X.heap[w.heap.size]? = some (.cells #[.int .u64 ((s : Nat) : Int), .int .u64 ((e : Nat) : Int), .int .u8 ((l : Nat) : Int)] 24 (0, 0))) := by
    show _ = _
    rw [hX, Below.heap_alloc _ _ _ (by simp), heap_alloc_new]
  have HX1 : Hid (X.heap[w.heap.size + 1]? = some (.cells ((List.replicate 32 (0 : UInt8)).map bv).toArray 65 (0, 0))) := by
    show _ = _
    have e := heap_alloc_new (w.alloc (.cells #[.int .u64 ((s : Nat) : Int), .int .u64 ((e : Nat) : Int), .int .u8 ((l : Nat) : Int)] 24)) (.cells #[.int .u8 0, .int .u8 0, .int .u8 0, .int .u8 0, .int .u8 0, .int .u8 0, .int .u8 0, .int .u8 0, .int .u8 0, .int .u8 0, .int .u8 0, .int .u8 0, .int .u8 0, .int .u8 0, .int .u8 0, .int .u8 0, .int .u8 0, .int .u8 0, .int .u8 0, .int .u8 0, .int .u8 0, .int .u8 0, .int .u8 0, .int .u8 0, .int .u8 0, .int .u8 0, .int .u8 0, .int .u8 0, .int .u8 0, .int .u8 0, .int .u8 0, .int .u8 0] 65)
    rw [hX, ← z32_eq]
    simpa using e
  have HXB : Hid (Below w.heap.size w X) := by
    show Below _ _ _
    rw [hX]
    exact ((Below.refl _ w).alloc (Nat.le_refl _) _).alloc (by simp) _
  have HA := hide (Arr.start X (w.heap.size + 1 + 1) hXs)
  have HL := hide (HeadD.mk s e l).bytes_len
  obtain ⟨bs, hbs⟩ : ∃ bs, bs = (HeadD.mk s e l).bytes := ⟨_, rfl⟩
  rw [← hbs] at HL ⊢
  have HBS := hide hbs.symm
  clear hbs
  obtain ⟨hs, he, hl⟩ := hf
  simp only at hs he hl
  go_enter Try.func33, Try.ntmps33
  go_upto_region 2 with fail
  rw [← hX]
  clear hX
  generalize X.alloc (.cells #[.int .u8 0, .int .u8 0, .int .u8 0, .int .u8 0, .int .u8 0, .int .u8 0, .int .u8 0, .int .u8 0, .int .u8 0, .int .u8 0, .int .u8 0, .int .u8 0, .int .u8 0, .int .u8 0, .int .u8 0, .int .u8 0, .int .u8 0, .int .u8 0, .int .u8 0, .int .u8 0, .int .u8 0, .int .u8 0, .int .u8 0, .int .u8 0, .int .u8 0, .int .u8 0, .int .u8 0, .int .u8 0, .int .u8 0, .int .u8 0, .int .u8 0, .int .u8 0] 65) = w1 at *
  have HC : Hid (∀ bs W, Arr X (w.heap.size + 1 + 1) bs W → W.cell? ⟨w.heap.size, 0, none⟩ = some (.int .u64 ((s : Nat) : Int)) ∧ W.cell? ⟨w.heap.size, 1, none⟩ = some (.int .u64 ((e : Nat) : Int)) ∧ W.cell? ⟨w.heap.size, 2, none⟩ = some (.int .u8 ((l : Nat) : Int))) := fun bs W h => by
    have hk := (h.bb.block w.heap.size (by omega)).trans (unhide HX0)
    exact ⟨cell_of_row _ _ 0 _ _ _ hk, cell_of_row _ _ 1 _ _ _ hk, cell_of_row _ _ 2 _ _ _ hk⟩
  have HXS := hide hXs
  clear hXs
  have c0 := (unhide HC _ _ (unhide HA)).1
  go_cut [] (fun wx => Arr X (w.heap.size + 1 + 1) (eightAt (List.replicate 32 0) 0 s 8) wx)
  case first =>
    go_region_with (go_at_call 59; refine (hPut_any ((unhide HA).drewN _) 0 s hs (by simp)).mono ?_; rintro e w' ⟨rfl, hA⟩)
    all_goals (go_wp2_with fail; go_meet; exact hA)
  have HA2 := hide hcut
  clear hcut HA c0
  generalize wc = w2 at *
  have c1 := (unhide HC _ _ (unhide HA2)).2.1
  go_upto_region 3 with fail
  go_cut [] (fun wx => Arr X (w.heap.size + 1 + 1) (eightAt (eightAt (List.replicate 32 0) 0 s 8) 8 e 8) wx)
  case first =>
    go_region_with (go_at_call 59; refine (hPut_any ((unhide HA2).drewN _) 8 e he (by rw [eightAt_len]; simp)).mono ?_; rintro e w' ⟨rfl, hA⟩)
    all_goals (go_wp2_with fail; go_meet; exact hA)
  have HA3 := hide hcut
  clear hcut HA2 c1
  generalize wc = w3 at *
  have c2 := (unhide HC _ _ (unhide HA3)).2.2
  have hk16 : 16 < (eightAt (eightAt (List.replicate 32 0) 0 s 8) 8 e 8).length := by rw [eightAt_len, eightAt_len]; simp
  have c16 := (unhide HA3).cell hk16
  have f16 := (unhide HA3).frozen 16
  have HA4 := hide ((unhide HA3).put hk16 l hl)
  generalize ((eightAt (eightAt (List.replicate 32 0) 0 s 8) 8 e 8).getD 16 0).toNat = x16 at c16
  clear hk16 HA3
  go_upto_region 5 with fail
  generalize w3.setCell ⟨w.heap.size + 1 + 1, 16, none⟩ (.int .u8 ((l : Nat) : Int)) = w4 at *
  clear c2 c16 f16
  have c0 := (unhide HC _ _ (unhide HA4)).1
  go_cut [] (fun wx => Arr X (w.heap.size + 1 + 1) bs wx)
  case first =>
    go_region_with (go_at_call 59; refine (hPut_any ((unhide HA4).drewN _) 24 s hs (by rw [List.length_set, eightAt_len, eightAt_len]; simp)).mono ?_; rintro e w' ⟨rfl, hA⟩)
    all_goals (go_wp2_with fail; go_meet; rw [laid_list] at hA; exact unhide HBS ▸ hA)
  have HA5 := hide hcut
  clear hcut HA4 c0
  generalize wc = w5 at *
  have HR : Hid (w5.heap[w.heap.size + 1]? = some (.cells ((List.replicate 32 (0 : UInt8)).map bv).toArray 65 (0, 0))) := ((unhide HA5).bb.block _ (by have := unhide HXS; omega)).trans (unhide HX1)
  have HI : Hid ((Try.prog.info? 65).map (·.size) = some (bs.map bv).toArray.size) := by
    show _ = _
    rw [List.size_toArray, List.length_map, unhide HL]
    exact info32
  have HS : Hid (((List.replicate 32 (0 : UInt8)).map bv).toArray.size = (bs.map bv).toArray.size) := by
    show _ = _
    rw [List.size_toArray, List.size_toArray, List.length_map, List.length_map, unhide HL]
    rfl
  go_wp2_with (first
    | refine wpList_load_row rfl 65 (.tmp 3) rfl (w.heap.size + 1 + 1) rfl _ _ _ _ (unhide HA5).blk Try.underlying65 rfl (unhide HI) ?_
    | refine wpList_store_row rfl 65 (.tmp 2) (.tmp 19) rfl (w.heap.size + 1) (bs.map bv).toArray rfl rfl _ _ (unhide HR) (unhide HI) (unhide HS) (all_oneCell_toArray (bv_one _)) ?_)
  refine bodyPost_ret (results_cell_row rfl _ _ _ _ _ _ _ rfl (setRow_heap _ _ _ _ _ _ (unhide HR)) Try.underlying65 rfl (unhide HI)) rfl ?_
  refine ⟨rfl, (unhide HXB).trans ((((unhide HA5).bb.mono (unhide HXB).size)).trans ?_)⟩
  exact below_setRow _ _ _ (by omega)
end Go.Proofs.Ytoabpjdpdcpdlaa

namespace Go.Proofs.Ytoabpjdpdcpdlaa
open Go.RowKit

theorem hBytes_no (s e l : Nat) (w : World) (hf : (HeadD.mk s e l).fits) (hr : (HeadD.mk s e l).right = false) : Calls Try.prog 10 #[.agg #[.int .u64 ((s : Nat) : Int), .int .u64 ((e : Nat) : Int), .int .u8 ((l : Nat) : Int)]] w fun e' w' => e' = .returned (.tuple #[.slice none 0 0, .int .i64 50]) ∧ Below w.heap.size w w' := by
  have HB := hide ((Below.refl _ w).alloc (Nat.le_refl _) (.cells #[.int .u64 ((s : Nat) : Int), .int .u64 ((e : Nat) : Int), .int .u8 ((l : Nat) : Int)] 24))
  have HR := hide hr
  have HF := hide hf
  clear hr hf
  go_enter Try.func10, Try.ntmps10
  go_wp2_with fail
  refine (hRight_any s e l _ (unhide HF)).mono ?_
  rintro e' w1 ⟨rfl, hb1⟩
  have HB1 : Hid (Below w.heap.size w w1) := (unhide HB).trans (hb1.mono (unhide HB).size)
  clear hb1 HB
  rw [unhide HR]
  go_wp2_with fail
  go_ret2
  exact ⟨rfl, unhide HB1⟩

/-- The bytes lie in a new array. -/
theorem Arr.stored {w0 X : World} {g : Nat} {bs : List UInt8} (hb : Below w0.heap.size w0 X) (hg : X.heap.size = g) : Arr w0 g bs ((X.alloc (.cells #[.int .u8 0, .int .u8 0, .int .u8 0, .int .u8 0, .int .u8 0, .int .u8 0, .int .u8 0, .int .u8 0, .int .u8 0, .int .u8 0, .int .u8 0, .int .u8 0, .int .u8 0, .int .u8 0, .int .u8 0, .int .u8 0, .int .u8 0, .int .u8 0, .int .u8 0, .int .u8 0, .int .u8 0, .int .u8 0, .int .u8 0, .int .u8 0, .int .u8 0, .int .u8 0, .int .u8 0, .int .u8 0, .int .u8 0, .int .u8 0, .int .u8 0, .int .u8 0] 65)).setRow g (bs.map bv).toArray) := by
  subst hg
  refine ⟨setRow_heap _ _ _ _ _ _ (heap_alloc_new X _), hb.size, ?_⟩
  exact (hb.alloc hb.size _).trans (below_setRow _ _ _ hb.size)

set_option maxRecDepth 100000 in
set_option maxHeartbeats 4000000 in
theorem hBytes_ok (s e l : Nat) (w : World) (hf : (HeadD.mk s e l).fits) (hr : (HeadD.mk s e l).right = true) : Calls Try.prog 10 #[.agg #[.int .u64 ((s : Nat) : Int), .int .u64 ((e : Nat) : Int), .int .u8 ((l : Nat) : Int)]] w fun e' w' => ∃ g, e' = .returned (.tuple #[.slice (some ⟨g, 0, none⟩) 32 32, .int .i64 0]) ∧ Arr w g (HeadD.mk s e l).bytes w' := by
  have HB := hide ((Below.refl _ w).alloc (Nat.le_refl _) (.cells #[.int .u64 ((s : Nat) : Int), .int .u64 ((e : Nat) : Int), .int .u8 ((l : Nat) : Int)] 24))
  have HX : Hid ((w.alloc (.cells #[.int .u64 ((s : Nat) : Int), .int .u64 ((e : Nat) : Int), .int .u8 ((l : Nat) : Int)] 24)).heap[w.heap.size]? = some (.cells #[.int .u64 ((s : Nat) : Int), .int .u64 ((e : Nat) : Int), .int .u8 ((l : Nat) : Int)] 24 (0, 0))) := heap_alloc_new w _
  have HR := hide hr
  have HF := hide hf
  have HL := hide (HeadD.mk s e l).bytes_len
  obtain ⟨bs, hbs⟩ : ∃ bs, (HeadD.mk s e l).bytes = bs := ⟨_, rfl⟩
  rw [hbs] at HL ⊢
  have HBS := hide hbs
  clear hr hf hbs
  go_enter Try.func10, Try.ntmps10
  go_wp2_with fail
  refine (hRight_any s e l _ (unhide HF)).mono ?_
  rintro e' w1 ⟨rfl, hb1⟩
  have HB1 : Hid (Below w.heap.size w w1) := (unhide HB).trans (hb1.mono (unhide HB).size)
  have hX1 := (hb1.block w.heap.size (by simp)).trans (unhide HX)
  have c0 : w1.cell? ⟨w.heap.size, 0, none⟩ = some (.int .u64 ((s : Nat) : Int)) := cell_of_row _ _ 0 _ _ _ hX1
  have c1 : w1.cell? ⟨w.heap.size, 1, none⟩ = some (.int .u64 ((e : Nat) : Int)) := cell_of_row _ _ 1 _ _ _ hX1
  have c2 : w1.cell? ⟨w.heap.size, 2, none⟩ = some (.int .u8 ((l : Nat) : Int)) := cell_of_row _ _ 2 _ _ _ hX1
  clear hb1 HB HX hX1
  rw [unhide HR]
  go_wp2_with fail
  refine (hLaid_any s e l _ (unhide HF)).mono ?_
  rintro e' w2 ⟨rfl, hb2⟩
  have HB2 : Hid (Below w.heap.size w w2) := (unhide HB1).trans (hb2.mono (unhide HB1).size)
  clear hb2 HB1 c0 c1 c2
  rw [unhide HBS]
  have HI : Hid ((Try.prog.info? 65).map (·.size) = some (bs.map bv).toArray.size) := by
    show _ = _
    rw [List.size_toArray, List.length_map, unhide HL]
    exact info32
  have HS : Hid ((#[.int .u8 0, .int .u8 0, .int .u8 0, .int .u8 0, .int .u8 0, .int .u8 0, .int .u8 0, .int .u8 0, .int .u8 0, .int .u8 0, .int .u8 0, .int .u8 0, .int .u8 0, .int .u8 0, .int .u8 0, .int .u8 0, .int .u8 0, .int .u8 0, .int .u8 0, .int .u8 0, .int .u8 0, .int .u8 0, .int .u8 0, .int .u8 0, .int .u8 0, .int .u8 0, .int .u8 0, .int .u8 0, .int .u8 0, .int .u8 0, .int .u8 0, .int .u8 0] : Array Value).size = (bs.map bv).toArray.size) := by
    have h2 : (bs.map bv).toArray.size = 32 := by rw [List.size_toArray, List.length_map]; exact unhide HL
    exact h2.symm
  have HN := hide (heap_alloc_new w2 (.cells #[.int .u8 0, .int .u8 0, .int .u8 0, .int .u8 0, .int .u8 0, .int .u8 0, .int .u8 0, .int .u8 0, .int .u8 0, .int .u8 0, .int .u8 0, .int .u8 0, .int .u8 0, .int .u8 0, .int .u8 0, .int .u8 0, .int .u8 0, .int .u8 0, .int .u8 0, .int .u8 0, .int .u8 0, .int .u8 0, .int .u8 0, .int .u8 0, .int .u8 0, .int .u8 0, .int .u8 0, .int .u8 0, .int .u8 0, .int .u8 0, .int .u8 0, .int .u8 0] 65))
  go_wp2_with (refine wpList_store_row rfl 65 (.tmp 4) (.tmp 9) rfl w2.heap.size (bs.map bv).toArray rfl rfl _ _ (unhide HN) (unhide HI) (unhide HS) (all_oneCell_toArray (bv_one _)) ?_)
  go_ret2
  exact ⟨_, rfl, Arr.stored (unhide HB2) rfl⟩

/-- Whatever head it is. -/
theorem hBytes_any (s e l : Nat) (w : World) (hf : (HeadD.mk s e l).fits) : Calls Try.prog 10 #[.agg #[.int .u64 ((s : Nat) : Int), .int .u64 ((e : Nat) : Int), .int .u8 ((l : Nat) : Int)]] w fun e' w' => ∃ v, e' = .returned (.tuple #[v, .int .i64 (hbErr ⟨s, e, l⟩)]) ∧ Bytes w' v (hbOf ⟨s, e, l⟩) ∧ Below w.heap.size w w' := by
  cases hr : (HeadD.mk s e l).right with
  | true =>
    rw [hbErr_ok hr, hbOf_ok hr]
    refine (hBytes_ok s e l w hf hr).mono ?_
    rintro e' w' ⟨g, rfl, hA⟩
    have hb := hA.bytes (o := 0) (n := 32) (c := 32) (by rw [HeadD.bytes_len]; omega) (Nat.le_refl _) (by decide)
    rw [List.drop_zero, List.take_of_length_le (by rw [HeadD.bytes_len]; omega)] at hb
    exact ⟨_, rfl, hb, hA.bb⟩
  | false =>
    rw [hbErr_no hr, hbOf_no hr]
    refine (hBytes_no s e l w hf hr).mono ?_
    rintro e' w' ⟨rfl, hb⟩
    exact ⟨_, rfl, .inl ⟨rfl, rfl⟩, hb⟩
end Go.Proofs.Ytoabpjdpdcpdlaa
