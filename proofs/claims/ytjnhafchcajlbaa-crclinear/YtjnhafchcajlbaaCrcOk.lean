/- What is asked of package crc's four functions, as one proposition; the chapter's examples out of it. No statement of the seat is proved here. -/
import Derived.Test.YtjnhafchcajlbaaCrcRef
import Derived.Test.YtjnhafchcajlbaaCrcRefT
import Derived.Lib.SlBytesConst
namespace Go.Proofs.Ytjnhafchcajlbaa
open Go.RowKit

/-- The functions of package crc answer by definition, and leave all that was there alone. -/
structure CrcOk : Prop where
  table : ∀ (i : Nat) (w : World), i < 256 → Calls Try.prog 9 #[.int .u8 (i : Nat)] w fun e w' => e = .returned (.int .u32 (hvs 8 i : Nat)) ∧ Below w.heap.size w w'
  next : ∀ (s b : Nat) (w : World), s < 4294967296 → b < 256 → Calls Try.prog 11 #[.int .u32 (s : Nat), .int .u8 (b : Nat)] w fun e w' => e = .returned (.int .u32 (nx s b : Nat)) ∧ Below w.heap.size w w'
  sum : ∀ (u : Value) (bs : List UInt8) (w : World), Bytes w u bs → bs.length ≤ 1048576 → Calls Try.prog 13 #[u] w fun e w' => e = .returned (.int .u32 (sumB bs : Nat)) ∧ Below w.heap.size w w'
  join : ∀ (a b n : Nat) (w : World), a < 4294967296 → b < 4294967296 → n ≤ 2147483647 → Calls Try.prog 15 #[.int .u32 (a : Nat), .int .u32 (b : Nat), .int .i64 (n : Nat)] w fun e w' => e = .returned (.int .u32 (jn a b n : Nat)) ∧ Below w.heap.size w w'
  joinBad : ∀ (a b : Nat) (n : Int) (w : World), a < 4294967296 → b < 4294967296 → (n < 0 ∨ 2147483647 < n) → Calls Try.prog 15 #[.int .u32 (a : Nat), .int .u32 (b : Nat), .int .i64 n] w fun e w' => e = .returned (.int .u32 (a : Nat)) ∧ Below w.heap.size w w'

theorem bytes_block {W : World} {g : Nat} {t : TypeId} {fr : Nat × Nat} {bs : List UInt8} {cs : Array Value} (h : W.heap[g]? = some (.cells cs t fr)) (hc : cs = (bs.map bv).toArray) (hl : bs.length ≤ 1000) : Bytes W (.slice (some ⟨g, 0, none⟩) bs.length bs.length) bs := by
  refine .inr ⟨⟨g, 0, none⟩, bs.length, rfl, Nat.le_refl _, by unfold maxLen; omega, fun j x hx => ?_⟩
  rw [Addr.add_mid, Nat.zero_add, cell_of_row _ _ _ _ _ _ h, hc]
  simpa using hx

set_option maxRecDepth 100000 in
set_option maxHeartbeats 4000000 in
theorem awake_any (hc : CrcOk) (w : World) : Calls Try.prog 8 #[] w fun e w' => e = .returned (.bool true) ∧ Below w.heap.size w w' := by
  have HC := hide hc
  clear hc
  have e0 : sumB [] = 0 := rfl
  have e1 : sumB [49, 50, 51, 52, 53, 54, 55, 56, 57] = 3421780262 := by decide +kernel
  have e2 : sumB [0] = 3523407757 := by decide +kernel
  have e3 : hvs 8 1 = 1996959894 := by decide +kernel
  have e4 : hvs 8 128 = 3988292384 := by decide +kernel
  have e5 : jn (sumB [49, 50, 51, 52, 53]) (sumB [54, 55, 56, 57]) 4 = 3421780262 := by decide +kernel
  have E0 := hide e0
  have E1 := hide e1
  have E2 := hide e2
  have E3 := hide e3
  have E4 := hide e4
  have E5 := hide e5
  clear e0 e1 e2 e3 e4 e5
  have hcv := fun (W : World) (C : Array Value) (n c : Nat) => Lib.run_convert_bytes_const (P := Try.prog) W 23 5 C n c Try.underlying23 Try.underlying5
  go_enter Try.func8, Try.ntmps8
  go_wp2_with fail
  refine ((unhide HC).sum (.slice none 0 0) [] _ (.inl ⟨rfl, rfl⟩) (by simp)).mono ?_
  rintro e w1 ⟨rfl, hb⟩
  rw [unhide E0]
  have HB := hide hb
  clear hb
  go_wp2_with fail
  refine ((unhide HC).sum _ [49, 50, 51, 52, 53, 54, 55, 56, 57] _ (bytes_block (heap_alloc_new w1 _) rfl (by decide)) (by decide)).mono ?_
  rintro e w2 ⟨rfl, hb⟩
  rw [unhide E1]
  have HB2 := hide ((unhide HB).trans ((((Below.refl _ w1).alloc (Nat.le_refl _) _).trans (hb.mono (by simp))).mono (unhide HB).size))
  clear hb HB
  go_wp2_with fail
  refine ((unhide HC).sum _ [0] _ (bytes_block (heap_alloc_new w2 _) rfl (by decide)) (by decide)).mono ?_
  rintro e w3 ⟨rfl, hb⟩
  rw [unhide E2]
  have HB3 := hide ((unhide HB2).trans ((((Below.refl _ w2).alloc (Nat.le_refl _) _).trans (hb.mono (by simp))).mono (unhide HB2).size))
  clear hb HB2
  go_wp2_with fail
  refine ((unhide HC).table 1 _ (by omega)).mono ?_
  rintro e w4 ⟨rfl, hb⟩
  rw [unhide E3]
  have HB4 := hide ((unhide HB3).trans (hb.mono (unhide HB3).size))
  clear hb HB3
  go_wp2_with fail
  refine ((unhide HC).table 128 _ (by omega)).mono ?_
  rintro e w5 ⟨rfl, hb⟩
  rw [unhide E4]
  have HB5 := hide ((unhide HB4).trans (hb.mono (unhide HB4).size))
  clear hb HB4
  go_wp2_with fail
  refine ((unhide HC).sum _ [49, 50, 51, 52, 53] _ (bytes_block (heap_alloc_new w5 _) rfl (by decide)) (by decide)).mono ?_
  rintro e w6 ⟨rfl, hb⟩
  have HB6 := hide ((unhide HB5).trans ((((Below.refl _ w5).alloc (Nat.le_refl _) _).trans (hb.mono (by simp))).mono (unhide HB5).size))
  clear hb HB5
  go_wp2_with fail
  refine ((unhide HC).sum _ [54, 55, 56, 57] _ (bytes_block (heap_alloc_new w6 _) rfl (by decide)) (by decide)).mono ?_
  rintro e w7 ⟨rfl, hb⟩
  have HB7 := hide ((unhide HB6).trans ((((Below.refl _ w6).alloc (Nat.le_refl _) _).trans (hb.mono (by simp))).mono (unhide HB6).size))
  clear hb HB6
  go_wp2_with fail
  refine ((unhide HC).join (sumB [49, 50, 51, 52, 53]) (sumB [54, 55, 56, 57]) 4 _ (sum_lt _) (sum_lt _) (by omega)).mono ?_
  rintro e w8 ⟨rfl, hb⟩
  rw [unhide E5]
  have HB8 := hide ((unhide HB7).trans (hb.mono (unhide HB7).size))
  clear hb HB7
  go_wp2
  go_ret
  exact ⟨rfl, unhide HB8⟩
end Go.Proofs.Ytjnhafchcajlbaa
