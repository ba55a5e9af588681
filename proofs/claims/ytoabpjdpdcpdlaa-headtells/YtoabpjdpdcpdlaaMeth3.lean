/- What Append does to a disk that New made, where it is done, and where it kills. No statement of the seat is proved here. -/
import Derived.Test.YtoabpjdpdcpdlaaMeth2
import Derived.Deep.RegionHeld3
namespace Go.Proofs.Ytoabpjdpdcpdlaa
open Go.RowKit

section
variable {w : World} {p : Nat} {D : Nat → Prop} {v : Nat → Value} {A : AD}

theorem two_boxes (w : World) (x y : Value) (t s : TypeId) (n : Nat) : (((w.alloc (.cells #[x] t)).drewN n).alloc (.cells #[y] s)).cell? ⟨w.heap.size, 0, none⟩ = some x ∧ (((w.alloc (.cells #[x] t)).drewN n).alloc (.cells #[y] s)).cell? ⟨w.heap.size + 1, 0, none⟩ = some y := by
  have h1 : (((w.alloc (.cells #[x] t)).drewN n).alloc (.cells #[y] s)).heap[w.heap.size]? = some (.cells #[x] t (0, 0)) := by
    rw [Below.heap_alloc _ _ _ (by simp)]; exact heap_alloc_new w _
  have h2 : (((w.alloc (.cells #[x] t)).drewN n).alloc (.cells #[y] s)).heap[w.heap.size + 1]? = some (.cells #[y] s (0, 0)) := by
    have := heap_alloc_new ((w.alloc (.cells #[x] t)).drewN n) (.cells #[y] s)
    have e : ((w.alloc (.cells #[x] t)).drewN n).heap.size = w.heap.size + 1 := by simp
    rw [e] at this; exact this
  exact ⟨cell_of_row _ _ 0 _ _ _ h1, cell_of_row _ _ 0 _ _ _ h2⟩

theorem DiskIs.fresh (h : DiskIs w p D v A) (k : Nat) (hk : w.heap.size ≤ k) : ¬ D k := fun hd => by have := h.lt k hd; omega

theorem room_of {i : Nat} (hi : i < 2) {n : Nat} (hroom : ((A.x 0).length : Int) + (A.x 1).length + n ≤ A.cap) : ((A.x i).length : Int) + n + (A.x (1 - i)).length ≤ A.cap := by
  rcases (show i = 0 ∨ i = 1 by omega) with rfl | rfl
  · show ((A.x 0).length : Int) + n + (A.x 1).length ≤ A.cap; omega
  · show ((A.x 1).length : Int) + n + (A.x 0).length ≤ A.cap; omega

/-- Dead, with the first bytes of what was to be appended. -/
def AD.killed (A : AD) (i : Nat) (bs : List UInt8) : AD := { A with dead := true, x := upd A.x i (A.x i ++ bs.take (keepN A.part bs.length)) }


end
end Go.Proofs.Ytoabpjdpdcpdlaa
