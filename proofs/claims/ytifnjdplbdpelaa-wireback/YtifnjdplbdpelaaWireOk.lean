/- What the functions of package wire answer, as one structure, and Same of the statements. No statement of the seat is proved here. -/
import Derived.Test.YtifnjdplbdpelaaGenStep
import Derived.Test.YtifnjdplbdpelaaWireMath
namespace Go.Proofs.Ytifnjdplbdpelaa
open Go.RowKit

/-- What TakeNum tells, in memory. -/
def TookNumM (n : Nat) (bs : List UInt8) (e : Ending) (W : World) : Prop :=
  (∃ (x : Int) (k : Nat) (ra : Option Addr) (rc : Nat), Reads bs x k ∧ Bytes W (.slice ra (n - k) rc) (bs.drop k) ∧ e = .returned (.tuple #[.int .i64 x, .slice ra (n - k) rc, .int .i64 0])) ∨
  (NoNum bs ∧ e = .returned (.tuple #[.int .i64 0, .slice none 0 0, .int .i64 30]))
/-- What TakeText tells, in memory. -/
def TookTextM (n : Nat) (bs : List UInt8) (most : Int) (e : Ending) (W : World) : Prop :=
  (∃ (s : List UInt8) (k : Nat) (ra : Option Addr) (rc : Nat), ReadsT bs most s k ∧ Bytes W (.slice ra (n - k - s.length) rc) (bs.drop (k + s.length)) ∧ e = .returned (.tuple #[.string ⟨s.toArray⟩, .slice ra (n - k - s.length) rc, .int .i64 0])) ∨
  (NoText bs most ∧ e = .returned (.tuple #[.string ⟨#[]⟩, .slice none 0 0, .int .i64 30]))

structure WireOk : Prop where
  size : ∀ n w, InR n → Calls Try.prog 18 #[.int .i64 n] w fun e w' => e = .returned (.int .i64 ((numB n).length : Nat)) ∧ Below w.heap.size w w'
  num : ∀ u bs n w, InR n → Bytes w u bs → bs.length ≤ 1048576 → Calls Try.prog 14 #[u, .int .i64 n] w fun e w' => ∃ v, e = .returned v ∧ Own w v (bs ++ numB n) w'
  text : ∀ u bs s w, Bytes w u bs → bs.length ≤ 1048576 → s.length ≤ 1048576 → Calls Try.prog 16 #[u, .string ⟨s.toArray⟩] w fun e w' => ∃ v, e = .returned v ∧ Own w v (bs ++ textB s) w'
  takeNum : ∀ a n c bs w, Bytes w (.slice a n c) bs → n ≤ 1048576 → Calls Try.prog 9 #[.slice a n c] w fun e w' => TookNumM n bs e w' ∧ Below w.heap.size w w'
  takeText : ∀ a n c bs most w, Bytes w (.slice a n c) bs → n ≤ 1048576 → InR most → Calls Try.prog 12 #[.slice a n c, .int .i64 most] w fun e w' => TookTextM n bs most e w' ∧ Below w.heap.size w w'

set_option maxHeartbeats 400000 in
theorem wSame_any (u1 u2 : Value) (b1 b2 : List UInt8) (w : World) (h1 : Bytes w u1 b1) (h2 : Bytes w u2 b2) : Calls Try.prog 11 #[u1, u2] w fun e w' => e = .returned (.bool (decide (b1 = b2))) ∧ w' = w := by
  have c1 := run_convert_bytes (P := Try.prog) w 22 9 5 Try.underlying22 Try.underlying5 Try.underlying9 u1 b1 h1
  have c2 := run_convert_bytes (P := Try.prog) w 22 9 5 Try.underlying22 Try.underlying5 Try.underlying9 u2 b2 h2
  have e0 : ((⟨b1.toArray⟩ : ByteArray).toList == (⟨b2.toArray⟩ : ByteArray).toList) = decide (b1 = b2) := by
    rw [ByteArray.toList_eq, ByteArray.toList_eq, Bool.eq_iff_iff]; simp
  have HE : Hid (((⟨b1.toArray⟩ : ByteArray).toList == (⟨b2.toArray⟩ : ByteArray).toList) = decide (b1 = b2)) := e0
  clear e0 h1 h2
  generalize (⟨b1.toArray⟩ : ByteArray) = s1 at *
  generalize (⟨b2.toArray⟩ : ByteArray) = s2 at *
  go_enter Try.func11, Try.ntmps11
  go_wp2
  go_ret
  exact ⟨ret_bool HE.out, rfl⟩
theorem wSame_true (u1 u2 : Value) (bs : List UInt8) (w : World) (h1 : Bytes w u1 bs) (h2 : Bytes w u2 bs) : Calls Try.prog 11 #[u1, u2] w fun e w' => e = .returned (.bool true) ∧ w' = w := by
  refine (wSame_any u1 u2 bs bs w h1 h2).mono ?_
  rintro e w' ⟨rfl, hw⟩
  exact ⟨by rw [decide_eq_true rfl], hw⟩
theorem wSame_false (u1 u2 : Value) (b1 b2 : List UInt8) (w : World) (h1 : Bytes w u1 b1) (h2 : Bytes w u2 b2) (hne : b1 ≠ b2) : Calls Try.prog 11 #[u1, u2] w fun e w' => e = .returned (.bool false) ∧ w' = w := by
  refine (wSame_any u1 u2 b1 b2 w h1 h2).mono ?_
  rintro e w' ⟨rfl, hw⟩
  exact ⟨by rw [decide_eq_false hne], hw⟩
end Go.Proofs.Ytifnjdplbdpelaa
