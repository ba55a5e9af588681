/- What Sync and Crash do. No statement of the seat is proved here. -/
import Derived.Test.YtoabpjdpdcpdlaaMeth4
namespace Go.Proofs.Ytoabpjdpdcpdlaa
open Go.RowKit

section
variable {w : World} {p : Nat} {D : Nat → Prop} {v : Nat → Value} {A : AD}

/-- All of segment i is safe. -/
def AD.synced (A : AD) (i : Nat) : AD := { A with safe := upd A.safe i (A.x i).length }

theorem segSync_now (h : DiskIs w p D v A) (i : Nat) (hi : i < 2) : Calls Try.prog 63 #[.pointer (some ⟨p, 2 + 2 * i, none⟩)] w fun e w' => e = .returned (.tuple #[]) ∧ DiskIs w' p D v (A.synced i) ∧ Step D D w w' :=
  (segSync_any h i hi).mono fun _ _ ⟨he, hw⟩ => ⟨he, hw ▸ h.setSafe i hi _ (Nat.le_refl _), hw ▸ (Step.refl D w).setCell (p := ⟨p, 3 + 2 * i, none⟩) h.own _⟩

theorem two_boxes0 (w : World) (x y : Value) (t s : TypeId) : ((w.alloc (.cells #[x] t)).alloc (.cells #[y] s)).cell? ⟨w.heap.size, 0, none⟩ = some x ∧ ((w.alloc (.cells #[x] t)).alloc (.cells #[y] s)).cell? ⟨w.heap.size + 1, 0, none⟩ = some y := two_boxes w x y t s 0

/-- Behind a crash. -/
def AD.crashed (A : AD) (k : Nat → Int) : AD := { ((((A.crashSeg 0 (k 0)).crashSeg 1 (k 1)).crashSlot 0 (k 2)).crashSlot 1 (k 3)) with calls := -1, part := 0, dead := false }
end
end Go.Proofs.Ytoabpjdpdcpdlaa
