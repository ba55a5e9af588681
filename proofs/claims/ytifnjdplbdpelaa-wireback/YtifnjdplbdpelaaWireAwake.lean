/- The chapter's examples, out of WireOk. No statement of the seat is proved here. -/
import Derived.Test.YtifnjdplbdpelaaWireOk
import Derived.Deep.RegionHeld3
namespace Go.Proofs.Ytifnjdplbdpelaa
open Go.RowKit

/-- Blocks that are made one behind the other. -/
def allocs (w : World) : List Obj → World
  | [] => w
  | o :: l => allocs (w.alloc o) l
theorem allocs_below (os : List Obj) : ∀ w : World, Below w.heap.size w (allocs w os) := by
  induction os with
  | nil => intro w; exact Below.refl _ w
  | cons o l ih =>
    intro w
    have h1 : Below w.heap.size w (w.alloc o) := (Below.refl _ w).alloc (Nat.le_refl _) _
    exact h1.trans ((ih (w.alloc o)).mono (by simp))
theorem allocs_at (os : List Obj) : ∀ (w : World) (i : Nat) (o : Obj), os[i]? = some o → (allocs w os).heap[w.heap.size + i]? = some o := by
  induction os with
  | nil => intro w i o h; cases h
  | cons x l ih =>
    intro w i o h
    cases i with
    | zero =>
      simp only [List.getElem?_cons_zero, Option.some.injEq] at h
      subst h
      have h1 := (allocs_below l (w.alloc x)).block w.heap.size (by simp)
      exact h1.trans (heap_alloc_new w x)
    | succ i =>
      have h1 := ih (w.alloc x) i o (by simpa using h)
      rw [World.size_alloc] at h1
      rw [show w.heap.size + (i + 1) = w.heap.size + 1 + i by omega]
      exact h1
theorem bytes_block {w : World} {g n : Nat} {t : TypeId} {bs : List UInt8} {fz : Nat × Nat} (h : w.heap[g]? = some (.cells (bs.map bv).toArray t fz)) (hn : bs.length = n) (hm : n ≤ maxLen) : Bytes w (.slice (some ⟨g, 0, none⟩) n n) bs := by
  subst hn
  refine .inr ⟨⟨g, 0, none⟩, bs.length, rfl, Nat.le_refl _, hm, fun j x hx => ?_⟩
  rw [Addr.add_mid, Nat.zero_add, cell_of_row _ _ _ _ _ _ h]
  simpa using hx

/-- One of the chapter's numbers, with its bytes, in the table. -/
structure ExAt (W : World) (B j : Nat) (N : Int) (s L : Nat) : Prop where
  inr : InR N
  len : L = (numB N).length
  num : W.cell? ⟨B, 2 * j, none⟩ = some (.int .i64 N)
  sl : W.cell? ⟨B, 2 * j + 1, none⟩ = some (.slice (some ⟨s, 0, none⟩) L L)
  bytes : Bytes W (.slice (some ⟨s, 0, none⟩) L L) (numB N)
theorem exAt_of {W : World} {B j : Nat} {N : Int} {s L : Nat} {C : Array Value} {t : TypeId} {bs : List UInt8} (hN : InR N) (hb : numB N = bs) (hB : W.heap[B]? = some (.cells C t (0, 0))) (h0 : C[2 * j]? = some (.int .i64 N)) (h1 : C[2 * j + 1]? = some (.slice (some ⟨s, 0, none⟩) L L))
    (hs : W.heap[s]? = some (.cells (bs.map bv).toArray 5 (0, 0))) (hl : bs.length = L) (hm : L ≤ 10) : ExAt W B j N s L := by
  subst hb
  exact ⟨hN, hl.symm, (cell_of_row _ _ _ _ _ _ hB).trans h0, (cell_of_row _ _ _ _ _ _ hB).trans h1, bytes_block hs hl (by unfold maxLen; omega)⟩

/-- What the table's blocks hold. -/
def exObjs (g : Nat) : List Obj := [.cells #[.int .u8 0] 5, .cells #[.int .u8 1] 5, .cells #[.int .u8 2] 5, .cells #[.int .u8 126] 5, .cells #[.int .u8 128, .int .u8 1] 5, .cells #[.int .u8 129, .int .u8 1] 5,
  .cells #[.int .u8 255, .int .u8 255, .int .u8 255, .int .u8 255, .int .u8 255, .int .u8 255, .int .u8 255, .int .u8 255, .int .u8 255, .int .u8 1] 5,
  .cells #[.int .i64 0, .slice (some ⟨g, 0, none⟩) 1 1, .int .i64 (-1), .slice (some ⟨g + 1, 0, none⟩) 1 1, .int .i64 1, .slice (some ⟨g + 1 + 1, 0, none⟩) 1 1, .int .i64 63, .slice (some ⟨g + 1 + 1 + 1, 0, none⟩) 1 1, .int .i64 64, .slice (some ⟨g + 1 + 1 + 1 + 1, 0, none⟩) 2 2,
    .int .i64 (-65), .slice (some ⟨g + 1 + 1 + 1 + 1 + 1, 0, none⟩) 2 2, .int .i64 (-9223372036854775808), .slice (some ⟨g + 1 + 1 + 1 + 1 + 1 + 1, 0, none⟩) 10 10] 44]
theorem exTable (w : World) (j : Nat) (hj : j < 7) : ∃ N s L, ExAt (allocs w (exObjs w.heap.size)) (w.heap.size + 7) j N s L := by
  have hB := allocs_at (exObjs w.heap.size) w 7 _ rfl
  have hs := fun i o h => allocs_at (exObjs w.heap.size) w i o h
  have g0 : numB 0 = [0] := by show grp 0 = _; simp [grp]
  have g1 : numB (-1) = [1] := by show grp 1 = _; simp [grp]
  have g2 : numB 1 = [2] := by show grp 2 = _; simp [grp]
  have g3 : numB 63 = [126] := by show grp 126 = _; simp [grp]
  have g4 : numB 64 = [128, 1] := by show grp 128 = _; simp [grp]
  have g5 : numB (-65) = [129, 1] := by show grp 129 = _; simp [grp]
  have g6 : numB (-9223372036854775808) = [255, 255, 255, 255, 255, 255, 255, 255, 255, 1] := by show grp 18446744073709551615 = _; simp [grp]
  have hc : j = 0 ∨ j = 1 ∨ j = 2 ∨ j = 3 ∨ j = 4 ∨ j = 5 ∨ j = 6 := by omega
  rcases hc with rfl | rfl | rfl | rfl | rfl | rfl | rfl
  · exact ⟨_, _, _, exAt_of (by unfold InR; omega) g0 hB rfl rfl (hs 0 _ rfl) rfl (by decide)⟩
  · exact ⟨_, _, _, exAt_of (by unfold InR; omega) g1 hB rfl rfl (hs 1 _ rfl) rfl (by decide)⟩
  · exact ⟨_, _, _, exAt_of (by unfold InR; omega) g2 hB rfl rfl (hs 2 _ rfl) rfl (by decide)⟩
  · exact ⟨_, _, _, exAt_of (by unfold InR; omega) g3 hB rfl rfl (hs 3 _ rfl) rfl (by decide)⟩
  · exact ⟨_, _, _, exAt_of (by unfold InR; omega) g4 hB rfl rfl (hs 4 _ rfl) rfl (by decide)⟩
  · exact ⟨_, _, _, exAt_of (by unfold InR; omega) g5 hB rfl rfl (hs 5 _ rfl) rfl (by decide)⟩
  · exact ⟨_, _, _, exAt_of (by unfold InR; omega) g6 hB rfl rfl (hs 6 _ rfl) rfl (by decide)⟩

theorem later_cell {w W : World} {p : Addr} {v : Value} (h : w.cell? p = some v) (hb : Below w.heap.size w W) : W.cell? p = some v := (hb.cell (World.block_lt_of_cell? _ _ h)).trans h

theorem reads_numB {N : Int} (hN : InR N) (r : List UInt8) : Reads (numB N ++ r) N (numB N).length := Reads.of (r := r) hN rfl
theorem tookNum_all {N : Int} {L : Nat} {e : Ending} {W : World} (h : TookNumM L (numB N) e W) (hN : InR N) (hL : L = (numB N).length) : ∃ ra rc, e = .returned (.tuple #[.int .i64 N, .slice ra 0 rc, .int .i64 0]) := by
  have h0 := reads_numB hN []
  rw [List.append_nil] at h0
  rcases h with ⟨x, k, ra, rc, hr, _, rfl⟩ | ⟨hN2, _⟩
  · obtain ⟨rfl, rfl⟩ := hr.same h0
    exact ⟨ra, rc, by rw [hL, Nat.sub_self]⟩
  · exact absurd h0 (hN2 _ _)

theorem tookNum_none {n : Nat} {bs : List UInt8} {e : Ending} {W : World} (h : TookNumM n bs e W) (hN : NoNum bs) : e = .returned (.tuple #[.int .i64 0, .slice none 0 0, .int .i64 30]) := by
  rcases h with ⟨x, k, ra, rc, hr, _⟩ | ⟨_, rfl⟩
  · exact absurd hr (hN _ _)
  · rfl
theorem tookText_none {n : Nat} {bs : List UInt8} {most : Int} {e : Ending} {W : World} (h : TookTextM n bs most e W) (hN : NoText bs most) : e = .returned (.tuple #[.string ⟨#[]⟩, .slice none 0 0, .int .i64 30]) := by
  rcases h with ⟨x, k, ra, rc, hr, _⟩ | ⟨_, rfl⟩
  · exact absurd hr (hN _ _)
  · rfl
theorem ex_noNum : NoNum [128, 0] := noNum_zero (p := [128]) (r := []) (y := 0) (fun x hx => by rw [List.mem_singleton.1 hx]; decide) (by decide) (by simp)
theorem ex_three : numB 3 = [6] := by show grp 6 = _; simp [grp]
theorem ex_two : numB 2 = [4] := by show grp 4 = _; simp [grp]
theorem ex_noText1 : NoText [6, 97, 98] 9 := by
  have h := reads_numB (N := 3) (by unfold InR; omega) [97, 98]
  rw [ex_three] at h
  exact noText_of h (.inr (.inr (by simp)))
theorem ex_textB : textB [97, 98] = [4, 97, 98] := by
  show numB 2 ++ [97, 98] = _
  rw [ex_two]; rfl
theorem ex_noText2 : NoText [4, 97, 98] 1 := by
  have h := noText_most (s := [97, 98]) (r := []) (most := 1) (by simp)
  rw [ex_textB] at h
  exact h

set_option maxRecDepth 100000 in
set_option maxHeartbeats 8000000 in
theorem wAwake_any (hc : WireOk) (w : World) : Calls Try.prog 8 #[] w fun e w' => e = .returned (.bool true) ∧ Below w.heap.size w w' := by
  have HC := hide hc
  clear hc
  obtain ⟨w1, hw1⟩ : ∃ w1, w1 = allocs w (exObjs w.heap.size) := ⟨_, rfl⟩
  have HB1 : Hid (Below w.heap.size w w1) := by rw [hw1]; exact allocs_below _ w
  have HT : Hid (∀ j, j < 7 → ∃ N s L, ExAt w1 (w.heap.size + 7) j N s L) := by rw [hw1]; exact exTable w
  have HW1 := hide hw1
  clear hw1
  go_enter Try.func8, Try.ntmps8
  go_upto_region 2 with fail
  have e1 := unhide HW1
  unfold allocs exObjs at e1
  simp only [allocs] at e1
  rw [← e1]
  clear e1 HW1
  go_loopw [31] (fun i W => ∃ j : Nat, j ≤ 7 ∧ i = .int .i64 ((j : Nat) : Int) ∧ Below w1.heap.size w1 W) (fun i _ => 7 - (intOf i).toNat)
  case atStart => exact ⟨0, by omega, rfl, Below.refl _ _⟩
  case round =>
    obtain ⟨j, hj, rfl, hb⟩ := hrel
    have HB := hide hb
    clear hb
    by_cases hlt : j < 7
    · obtain ⟨N, s, L, hE⟩ := unhide HT j hlt
      have hc0 := later_cell hE.num (unhide HB)
      have hc1 := later_cell hE.sl (unhide HB)
      have HBY : Hid (Bytes wr (.slice (some ⟨s, 0, none⟩) L L) (numB N)) := hE.bytes.kept fun k _ hk => (unhide HB).block k hk
      have HEX := hide hE
      have HL10 : Hid (L ≤ 10) := by show _ ≤ _; rw [hE.len]; exact numB_ten hE.inr
      rw [show 2 * j = j * 2 by omega] at hc0 hc1
      have hjl : ((j : Nat) : Int) < 7 := by omega
      clear hE
      go_wp2_with fail
      refine ((unhide HC).takeNum _ L L (numB N) _ ((unhide HBY).alloc _) (by have := unhide HL10; omega)).mono ?_
      rintro e w2 ⟨ht, hb2⟩
      obtain ⟨ra, rc, rfl⟩ := tookNum_all ht (unhide HEX).inr (unhide HEX).len
      have hcA : w2.cell? ⟨wr.heap.size, 0, none⟩ = some (.int .i64 N) := later_cell (cell_of_row _ _ 0 _ _ _ (heap_alloc_new wr _)) hb2
      have hcB : w2.cell? ⟨wr.heap.size, 1, none⟩ = some (.slice (some ⟨s, 0, none⟩) L L) := later_cell (cell_of_row _ _ 1 _ _ _ (heap_alloc_new wr _)) hb2
      have HBY2 : Hid (Bytes w2 (.slice (some ⟨s, 0, none⟩) L L) (numB N)) := ((unhide HBY).alloc _).kept fun k _ hk => hb2.block k hk
      have HB2 : Hid (Below w1.heap.size w1 w2) := (unhide HB).trans (((Below.refl _ wr).alloc (unhide HB).size _).trans (hb2.mono (by have := (unhide HB).size; simp; omega)))
      clear ht hb2 hc0 hc1
      go_upto_region 5 with fail
      have HKS : Hid (∀ X, Below w2.heap.size w2 X → X.cell? ⟨wr.heap.size, 0, none⟩ = some (.int .i64 N) ∧ X.cell? ⟨wr.heap.size, 1, none⟩ = some (.slice (some ⟨s, 0, none⟩) L L) ∧ Below w2.heap.size w2 X) := fun X hX => ⟨later_cell hcA hX, later_cell hcB hX, hX⟩
      go_region_held3 (fun W => W.cell? ⟨wr.heap.size, 0, none⟩ = some (.int .i64 N) ∧ W.cell? ⟨wr.heap.size, 1, none⟩ = some (.slice (some ⟨s, 0, none⟩) L L) ∧ Below w2.heap.size w2 W)
        ((refine unhide HKS _ ?_; repeat' (first | assumption | exact Below.refl _ _ | refine Below.drew ?_)))
        (first
          | (go_at_call 14; refine ((unhide HC).num (.slice none 0 0) [] N _ (unhide HEX).inr (.inl ⟨rfl, rfl⟩) (by simp)).mono ?_; rintro e w3 ⟨v, rfl, hO⟩; have hBA := ((by assumption : _ ∧ _ ∧ Below w2.heap.size w2 _).2.2).trans (hO.bb.mono ((by assumption : _ ∧ _ ∧ Below w2.heap.size w2 _).2.2).size); have HBN : Hid (Bytes w3 v (numB N)) := hO.fresh.1.1; clear hO)
          | (go_at_call 11; refine (wSame_true v _ (numB N) _ (unhide HBN) ((unhide HBY2).kept fun k _ hk => hBA.block k hk)).mono ?_; rintro e w4 ⟨rfl, hw4⟩; rw [hw4]; clear hw4))
      have HBE := hide ((unhide HB2).trans (hBA.mono (unhide HB2).size))
      clear hBA
      go_wp2_with fail
      exact ⟨⟨j + 1, by omega, by go_num, unhide HBE⟩, by simp [intOf]; omega⟩
    · have e7 : j = 7 := by omega
      subst e7
      have HBW := hide ((unhide HB1).trans ((unhide HB).mono (unhide HB1).size))
      clear HB HT HB1
      go_wp2_with fail
      have h1 : Bytes (wr.alloc (.cells #[.int .u8 128, .int .u8 0] 5)) (.slice (some ⟨wr.heap.size, 0, none⟩) 2 2) [128, 0] := bytes_block (bs := [128, 0]) (heap_alloc_new wr _) rfl (by decide)
      refine ((unhide HC).takeNum _ 2 2 _ _ h1 (by omega)).mono ?_
      rintro e w2 ⟨ht, hb2⟩
      obtain rfl := tookNum_none ht ex_noNum
      have HB2 := hide ((((unhide HBW).alloc (unhide HBW).size _)).trans (hb2.mono (by have := (unhide HBW).size; simp; omega)))
      clear h1 ht hb2 HBW
      go_wp2_with fail
      have h1 : Bytes (w2.alloc (.cells #[.int .u8 6, .int .u8 97, .int .u8 98] 5)) (.slice (some ⟨w2.heap.size, 0, none⟩) 3 3) [6, 97, 98] := bytes_block (bs := [6, 97, 98]) (heap_alloc_new w2 _) rfl (by decide)
      refine ((unhide HC).takeText _ 3 3 _ 9 _ h1 (by omega) (by unfold InR; omega)).mono ?_
      rintro e w3 ⟨ht, hb3⟩
      obtain rfl := tookText_none ht ex_noText1
      have HB3 := hide ((((unhide HB2).alloc (unhide HB2).size _)).trans (hb3.mono (by have := (unhide HB2).size; simp; omega)))
      clear h1 ht hb3 HB2
      go_wp2_with fail
      have h1 : Bytes (w3.alloc (.cells #[.int .u8 4, .int .u8 97, .int .u8 98] 5)) (.slice (some ⟨w3.heap.size, 0, none⟩) 3 3) [4, 97, 98] := bytes_block (bs := [4, 97, 98]) (heap_alloc_new w3 _) rfl (by decide)
      refine ((unhide HC).takeText _ 3 3 _ 1 _ h1 (by omega) (by unfold InR; omega)).mono ?_
      rintro e w4 ⟨ht, hb4⟩
      obtain rfl := tookText_none ht ex_noText2
      have HB4 := hide ((((unhide HB3).alloc (unhide HB3).size _)).trans (hb4.mono (by have := (unhide HB3).size; simp; omega)))
      clear h1 ht hb4 HB3
      go_wp2_with fail
      refine ((unhide HC).text (.slice none 0 0) [] [97, 98] _ (.inl ⟨rfl, rfl⟩) (by simp) (by simp)).mono ?_
      rintro e w5 ⟨v, rfl, hO⟩
      rw [List.nil_append, ex_textB] at hO
      have HB5 := hide ((unhide HB4).trans (hO.bb.mono (unhide HB4).size))
      have HV := hide (hO.fresh.1.1)
      clear hO HB4
      go_wp2_with fail
      have h1 : Bytes (w5.alloc (.cells #[.int .u8 4, .int .u8 97, .int .u8 98] 5)) (.slice (some ⟨w5.heap.size, 0, none⟩) 3 3) [4, 97, 98] := bytes_block (bs := [4, 97, 98]) (heap_alloc_new w5 _) rfl (by decide)
      refine (wSame_true v _ _ _ ((unhide HV).alloc _) h1).mono ?_
      rintro e w6 ⟨rfl, hw⟩
      rw [hw]
      clear hw h1
      have HB6 := hide ((unhide HB5).alloc (unhide HB5).size (.cells #[.int .u8 4, .int .u8 97, .int .u8 98] 5))
      go_wp2_with fail
      go_ret
      exact ⟨rfl, unhide HB6⟩
end Go.Proofs.Ytifnjdplbdpelaa
