/- One op with both disks: the law's function 'step'. No statement of the seat is proved here. -/
import Derived.Test.YtbpjlkjokafdnaaTwin7
namespace Go.Proofs.Ytbpjlkjokafdnaa
open Go.RowKit

/-- Within 'step': the op's box at g, the slice r of its bytes bt; both disks side by side. -/
structure SR (w0 : World) (p q g : Nat) (ops : Array Value) (r : Value) (bt : List UInt8) (cs : Array Value) (A A2 : AD) (W : World) : Prop where
  tw : TW w0 p q (fun b => b = g ∨ r.ownBlock = some b) cs A A2 W
  box : W.heap[g]? = some (.cells ops 37 (0, 0))
  own : W.ownsRow 0 5 1 r bt.length (bt.map bv)
  apart : r.ownBlock ≠ some g

section
variable {w0 W W' : World} {p q g : Nat} {ops : Array Value} {r : Value} {bt : List UInt8} {cs cs' : Array Value} {A A2 A' A2' : AD}
theorem SR.move (h : SR w0 p q g ops r bt cs A A2 W) (ht : TW w0 p q (fun b => b = g ∨ r.ownBlock = some b) cs' A' A2' W') (he : ER (fun b => b = g ∨ r.ownBlock = some b) W W') : SR w0 p q g ops r bt cs' A' A2' W' :=
  ⟨ht, (he g (.inl rfl)).trans h.box, own_keeps h.own fun k hk => he k (.inr hk), h.apart⟩
theorem SR.later (h : SR w0 p q g ops r bt cs A A2 W) (hb : Below W.heap.size W W') : SR w0 p q g ops r bt cs A A2 W' := h.move (h.tw.later hb) (ER.below h.tw hb)
theorem SR.drew (h : SR w0 p q g ops r bt cs A A2 W) : SR w0 p q g ops r bt cs A A2 W.drew := h.later (Below.refl _ W).drew
theorem SR.bytes (h : SR w0 p q g ops r bt cs A A2 W) : Bytes W r bt := bytes_of_owns h.own
theorem SR.cells {v0 v1 v2 v3 v4 v5 v6 v7 : Value} (h : SR w0 p q g #[v0, v1, v2, v3, v4, v5, v6, v7] r bt cs A A2 W) : W.cell? ⟨g, 0, none⟩ = some v0 ∧ W.cell? ⟨g, 1, none⟩ = some v1 ∧ W.cell? ⟨g, 2, none⟩ = some v2 ∧ W.cell? ⟨g, 3, none⟩ = some v3 ∧ W.cell? ⟨g, 4, none⟩ = some v4 ∧ W.cell? ⟨g, 5, none⟩ = some v5 ∧ W.cell? ⟨g, 6, none⟩ = some v6 ∧ W.cell? ⟨g, 7, none⟩ = some v7 :=
  ⟨cell_of_row _ _ 0 _ _ _ h.box, cell_of_row _ _ 1 _ _ _ h.box, cell_of_row _ _ 2 _ _ _ h.box, cell_of_row _ _ 3 _ _ _ h.box, cell_of_row _ _ 4 _ _ _ h.box, cell_of_row _ _ 5 _ _ _ h.box, cell_of_row _ _ 6 _ _ _ h.box, cell_of_row _ _ 7 _ _ _ h.box⟩
/-- What is read of the op's box, in whatever world. -/
def BoxAt (g : Nat) (ops : Array Value) (sg nn : Int) (W : World) : Prop := W.cell? ⟨g, 1, none⟩ = some (.int .i64 sg) ∧ W.cell? ⟨g, 2, none⟩ = some (.int .i64 nn) ∧ (loadVar 37 ⟨g, 0, none⟩).run Try.prog W = .ok (.agg ops) W
theorem box_at {W : World} {g : Nat} {v0 v3 v4 v5 v6 v7 : Value} {sg nn : Int} (h : W.heap[g]? = some (.cells #[v0, .int .i64 sg, .int .i64 nn, v3, v4, v5, v6, v7] 37 (0, 0))) : BoxAt g #[v0, .int .i64 sg, .int .i64 nn, v3, v4, v5, v6, v7] sg nn W :=
  ⟨cell_of_row _ _ 1 _ _ _ h, cell_of_row _ _ 2 _ _ _ h, run_loadVar_row W g _ _ _ _ _ h Try.underlying37 rfl (by kernel_rfl)⟩
theorem SR.boxW (h : SR w0 p q g ops r bt cs A A2 W) (he : ER (fun b => b = g ∨ r.ownBlock = some b) W W') : W'.heap[g]? = some (.cells ops 37 (0, 0)) := (he g (.inl rfl)).trans h.box
theorem SR.load (h : SR w0 p q g ops r bt cs A A2 W) (hs : ops.size = 8) : (loadVar 37 ⟨g, 0, none⟩).run Try.prog W = .ok (.agg ops) W := run_loadVar_row W g _ _ ops _ _ h.box Try.underlying37 rfl (by rw [hs]; kernel_rfl)
end

end Go.Proofs.Ytbpjlkjokafdnaa
