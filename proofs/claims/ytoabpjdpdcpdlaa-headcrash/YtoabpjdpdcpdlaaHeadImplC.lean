/- What Bytes of package head answers. No statement of the seat is proved here. -/
import Derived.Test.YtoabpjdpdcpdlaaHeadImplB
namespace Go.Proofs.Ytoabpjdpdcpdlaa
open Go.RowKit

theorem hBytes_no (s e l : Nat) (w : World) (hf : (HeadD.mk s e l).fits) (hr : (HeadD.mk s e l).right = false) : Calls Try.prog 10 #[.agg #[.int .u64 ((s : Nat) : Int), .int .u64 ((e : Nat) : Int), .int .u8 ((l : Nat) : Int)]] w fun e' w' => e' = .returned (.tuple #[.slice none 0 0, .int .i64 50]) ∧ Below w.heap.size w w' := by
  have HB := hide ((Below.refl _ w).alloc (Nat.le_refl _) (.cells #[.int .u64 ((s : Nat) : Int), .int .u64 ((e : Nat) : Int), .int .u8 ((l : Nat) : Int)] 24))
  have HR := hide hr
  have HF := hide hf
  clear hr hf
  go_enter Try.func10, Try.ntmps10
  go_wp2_with fail
  refine (hRight_any s e l _ (unhide HF)).mono ?_
  rintro e' w1 ⟨rfl, hb1⟩
  have HB1 : Hid (Below w.heap.size w w1) := (unhide HB).trans (hb1.mono (unhide HB).size)
  clear hb1 HB
  rw [unhide HR]
  go_wp2_with fail
  go_ret2
  exact ⟨rfl, unhide HB1⟩

/-- The bytes lie in a new array. -/
theorem Arr.stored {w0 X : World} {g : Nat} {bs : List UInt8} (hb : Below w0.heap.size w0 X) (hg : X.heap.size = g) : Arr w0 g bs ((X.alloc (.cells #[.int .u8 0, .int .u8 0, .int .u8 0, .int .u8 0, .int .u8 0, .int .u8 0, .int .u8 0, .int .u8 0, .int .u8 0, .int .u8 0, .int .u8 0, .int .u8 0, .int .u8 0, .int .u8 0, .int .u8 0, .int .u8 0, .int .u8 0, .int .u8 0, .int .u8 0, .int .u8 0, .int .u8 0, .int .u8 0, .int .u8 0, .int .u8 0, .int .u8 0, .int .u8 0, .int .u8 0, .int .u8 0, .int .u8 0, .int .u8 0, .int .u8 0, .int .u8 0] 65)).setRow g (bs.map bv).toArray) := by
  subst hg
  refine ⟨setRow_heap _ _ _ _ _ _ (heap_alloc_new X _), hb.size, ?_⟩
  exact (hb.alloc hb.size _).trans (below_setRow _ _ _ hb.size)

set_option maxRecDepth 100000 in
set_option maxHeartbeats 4000000 in
theorem hBytes_ok (s e l : Nat) (w : World) (hf : (HeadD.mk s e l).fits) (hr : (HeadD.mk s e l).right = true) : Calls Try.prog 10 #[.agg #[.int .u64 ((s : Nat) : Int), .int .u64 ((e : Nat) : Int), .int .u8 ((l : Nat) : Int)]] w fun e' w' => ∃ g, e' = .returned (.tuple #[.slice (some ⟨g, 0, none⟩) 32 32, .int .i64 0]) ∧ Arr w g (HeadD.mk s e l).bytes w' := by
  have HB := hide ((Below.refl _ w).alloc (Nat.le_refl _) (.cells #[.int .u64 ((s : Nat) : Int), .int .u64 ((e : Nat) : Int), .int .u8 ((l : Nat) : Int)] 24))
  have HX : Hid ((w.alloc (.cells #[.int .u64 ((s : Nat) : Int), .int .u64 ((e : Nat) : Int), .int .u8 ((l : Nat) : Int)] 24)).heap[w.heap.size]? = some (.cells #[.int .u64 ((s : Nat) : Int), .int .u64 ((e : Nat) : Int), .int .u8 ((l : Nat) : Int)] 24 (0, 0))) := heap_alloc_new w _
  have HR := hide hr
  have HF := hide hf
  have HL := hide (HeadD.mk s e l).bytes_len
  obtain ⟨bs, hbs⟩ : ∃ bs, (HeadD.mk s e l).bytes = bs := ⟨_, rfl⟩
  rw [hbs] at HL ⊢
  have HBS := hide hbs
  clear hr hf hbs
  go_enter Try.func10, Try.ntmps10
  go_wp2_with fail
  refine (hRight_any s e l _ (unhide HF)).mono ?_
  rintro e' w1 ⟨rfl, hb1⟩
  have HB1 : Hid (Below w.heap.size w w1) := (unhide HB).trans (hb1.mono (unhide HB).size)
  have hX1 := (hb1.block w.heap.size (by simp)).trans (unhide HX)
  have c0 : w1.cell? ⟨w.heap.size, 0, none⟩ = some (.int .u64 ((s : Nat) : Int)) := cell_of_row _ _ 0 _ _ _ hX1
  have c1 : w1.cell? ⟨w.heap.size, 1, none⟩ = some (.int .u64 ((e : Nat) : Int)) := cell_of_row _ _ 1 _ _ _ hX1
  have c2 : w1.cell? ⟨w.heap.size, 2, none⟩ = some (.int .u8 ((l : Nat) : Int)) := cell_of_row _ _ 2 _ _ _ hX1
  clear hb1 HB HX hX1
  rw [unhide HR]
  go_wp2_with fail
  refine (hLaid_any s e l _ (unhide HF)).mono ?_
  rintro e' w2 ⟨rfl, hb2⟩
  have HB2 : Hid (Below w.heap.size w w2) := (unhide HB1).trans (hb2.mono (unhide HB1).size)
  clear hb2 HB1 c0 c1 c2
  rw [unhide HBS]
  have HI : Hid ((Try.prog.info? 65).map (·.size) = some (bs.map bv).toArray.size) := by
    show _ = _
    rw [List.size_toArray, List.length_map, unhide HL]
    exact info32
  have HS : Hid ((#[.int .u8 0, .int .u8 0, .int .u8 0, .int .u8 0, .int .u8 0, .int .u8 0, .int .u8 0, .int .u8 0, .int .u8 0, .int .u8 0, .int .u8 0, .int .u8 0, .int .u8 0, .int .u8 0, .int .u8 0, .int .u8 0, .int .u8 0, .int .u8 0, .int .u8 0, .int .u8 0, .int .u8 0, .int .u8 0, .int .u8 0, .int .u8 0, .int .u8 0, .int .u8 0, .int .u8 0, .int .u8 0, .int .u8 0, .int .u8 0, .int .u8 0, .int .u8 0] : Array Value).size = (bs.map bv).toArray.size) := by
    have h2 : (bs.map bv).toArray.size = 32 := by rw [List.size_toArray, List.length_map]; exact unhide HL
    exact h2.symm
  have HN := hide (heap_alloc_new w2 (.cells #[.int .u8 0, .int .u8 0, .int .u8 0, .int .u8 0, .int .u8 0, .int .u8 0, .int .u8 0, .int .u8 0, .int .u8 0, .int .u8 0, .int .u8 0, .int .u8 0, .int .u8 0, .int .u8 0, .int .u8 0, .int .u8 0, .int .u8 0, .int .u8 0, .int .u8 0, .int .u8 0, .int .u8 0, .int .u8 0, .int .u8 0, .int .u8 0, .int .u8 0, .int .u8 0, .int .u8 0, .int .u8 0, .int .u8 0, .int .u8 0, .int .u8 0, .int .u8 0] 65))
  go_wp2_with (refine wpList_store_row rfl 65 (.tmp 4) (.tmp 9) rfl w2.heap.size (bs.map bv).toArray rfl rfl _ _ (unhide HN) (unhide HI) (unhide HS) (all_oneCell_toArray (bv_one _)) ?_)
  go_ret2
  exact ⟨_, rfl, Arr.stored (unhide HB2) rfl⟩

/-- Whatever head it is. -/
theorem hBytes_any (s e l : Nat) (w : World) (hf : (HeadD.mk s e l).fits) : Calls Try.prog 10 #[.agg #[.int .u64 ((s : Nat) : Int), .int .u64 ((e : Nat) : Int), .int .u8 ((l : Nat) : Int)]] w fun e' w' => ∃ v, e' = .returned (.tuple #[v, .int .i64 (hbErr ⟨s, e, l⟩)]) ∧ Bytes w' v (hbOf ⟨s, e, l⟩) ∧ Below w.heap.size w w' := by
  cases hr : (HeadD.mk s e l).right with
  | true =>
    rw [hbErr_ok hr, hbOf_ok hr]
    refine (hBytes_ok s e l w hf hr).mono ?_
    rintro e' w' ⟨g, rfl, hA⟩
    have hb := hA.bytes (o := 0) (n := 32) (c := 32) (by rw [HeadD.bytes_len]; omega) (Nat.le_refl _) (by decide)
    rw [List.drop_zero, List.take_of_length_le (by rw [HeadD.bytes_len]; omega)] at hb
    exact ⟨_, rfl, hb, hA.bb⟩
  | false =>
    rw [hbErr_no hr, hbOf_no hr]
    refine (hBytes_no s e l w hf hr).mono ?_
    rintro e' w' ⟨rfl, hb⟩
    exact ⟨_, rfl, .inl ⟨rfl, rfl⟩, hb⟩
end Go.Proofs.Ytoabpjdpdcpdlaa
