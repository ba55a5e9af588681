/- Rows of numbers and of heads that came in. Our own definitions; no statement of the seat is proved here. -/
import Derived.Test.YtoabpjdpdcpdlaaHeadMath
import Derived.Test.YtoabpjdpdcpdlaaGen
namespace Go.Proofs.Ytoabpjdpdcpdlaa
open Go.RowKit

/-- A row of numbers that came in. -/
def U64s (w : World) (a : Option Addr) (n : Nat) (xs : Nat → Nat) : Prop := n ≠ 0 → ∃ b o, a = some ⟨b, o, none⟩ ∧ ∀ j, j < n → w.cell? ⟨b, o + j, none⟩ = some (.int .u64 ((xs j : Nat) : Int)) ∧ xs j < 18446744073709551616
/-- A row of heads that came in. -/
def HeadsAt (w : World) (a : Option Addr) (n : Nat) (hs : Nat → HeadD) : Prop := n ≠ 0 → ∃ b o, a = some ⟨b, o, none⟩ ∧ ∀ j, j < n → w.cell? ⟨b, o + 3 * j, none⟩ = some (.int .u64 (((hs j).s : Nat) : Int)) ∧ w.cell? ⟨b, o + 3 * j + 1, none⟩ = some (.int .u64 (((hs j).e : Nat) : Int)) ∧ w.cell? ⟨b, o + 3 * j + 2, none⟩ = some (.int .u8 (((hs j).l : Nat) : Int)) ∧ (hs j).fits
end Go.Proofs.Ytoabpjdpdcpdlaa
