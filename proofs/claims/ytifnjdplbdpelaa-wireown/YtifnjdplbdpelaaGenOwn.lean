/- Rows of bytes that are ours. Our own definitions; no statement of the seat is proved here. -/
import Derived.Test.YtifnjdplbdpelaaGen
namespace Go.Proofs.Ytifnjdplbdpelaa
open Go.RowKit

/-- Fresh, and a row of its own. -/
def FreshO (w w' : World) (r : Value) (bs : List UInt8) : Prop := Fresh w w' r bs ∧ w'.ownsRow 0 5 1 r bs.length (bs.map bv)

/-- Where append of bytes onto the empty row, or onto such a row, leads. -/
theorem grown_below {w W W' : World} {v v' : Value} (hb : Below w.heap.size w W) (hv : ∀ k, v.ownBlock = some k → w.heap.size ≤ k) (hg : W.grownBy W' v.ownBlock) (hn : v'.ownBlock = v.ownBlock ∨ ∃ k, v'.ownBlock = some k ∧ W.heap.size ≤ k) : Below w.heap.size w W' ∧ ∀ k, v'.ownBlock = some k → w.heap.size ≤ k :=
  ⟨hb.grown hg hb.size hv, fun k hk => by
    rcases hn with e | ⟨k', e, hle⟩
    · rw [e] at hk; exact hv k hk
    · rw [e] at hk; cases hk; have := hb.size; omega⟩

theorem below_drewN (w : World) (n : Nat) : Below w.heap.size w (w.drewN n) := ⟨rfl, rfl, rfl, Nat.le_refl _, fun _ _ => rfl⟩
theorem own_none (w : World) : w.ownsRow 0 5 1 (.slice none 0 0) ([] : List UInt8).length (([] : List UInt8).map bv) := ⟨by simp, .inl ⟨rfl, rfl⟩⟩
/-- One byte in a block of its own. -/
theorem bytes_one (w : World) (y : UInt8) : Bytes (w.alloc (.cells #[.int .u8 (y.toNat : Nat)] 5)) (.slice (some ⟨w.heap.size, 0, none⟩) 1 1) [y] := by
  refine .inr ⟨⟨w.heap.size, 0, none⟩, 1, rfl, Nat.le_refl _, by unfold maxLen; omega, fun j x hx => ?_⟩
  rw [Addr.add_mid, Nat.zero_add, cell_of_row _ _ _ _ _ _ (heap_alloc_new w _)]
  have hx' : [bv y][j]? = some x := hx
  show [bv y].toArray[j]? = some x
  simpa using hx'

/-- A row under way: its bytes, in a block that is new since w. -/
structure Own (w : World) (r : Value) (bs : List UInt8) (W : World) : Prop where
  own : W.ownsRow 0 5 1 r bs.length (bs.map bv)
  new : ∀ k, r.ownBlock = some k → w.heap.size ≤ k
  bb : Below w.heap.size w W
theorem Own.fresh {w W : World} {r : Value} {bs : List UInt8} (h : Own w r bs W) : FreshO w W r bs := ⟨⟨bytes_of_owns h.own, fun k hk => ⟨h.new k hk, (h.own.lt k hk).2⟩, h.bb⟩, h.own⟩
theorem Own.later {w W W' : World} {r : Value} {bs : List UInt8} (h : Own w r bs W) (hb : Below W.heap.size W W') : Own w r bs W' := ⟨own_keeps h.own fun k hk => hb.block k (h.own.lt k hk).2, h.new, h.bb.trans (hb.mono h.bb.size)⟩
theorem Own.alloc {w W : World} {r : Value} {bs : List UInt8} (h : Own w r bs W) (o : Obj) : Own w r bs (W.alloc o) := h.later ((Below.refl _ W).alloc (Nat.le_refl _) _)
/-- Behind an append. -/
theorem Own.grown {w W W' : World} {r r' : Value} {bs cs : List UInt8} (h : Own w r bs W) (r1 : W'.ownsRow 0 5 1 r' cs.length (cs.map bv)) (r2 : W.grownBy W' r.ownBlock) (r3 : r'.ownBlock = r.ownBlock ∨ ∃ k, r'.ownBlock = some k ∧ W.heap.size ≤ k) : Own w r' cs W' := by
  obtain ⟨h1, h2⟩ := grown_below h.bb h.new r2 r3
  exact ⟨r1, h2, h1⟩
theorem Own.start (w : World) : Own w (.slice none 0 0) [] w := ⟨own_none w, fun k hk => (by cases hk), Below.refl _ w⟩
theorem FreshO.own {w W W' : World} {r : Value} {bs : List UInt8} (h : FreshO W W' r bs) (hb : Below w.heap.size w W) : Own w r bs W' := ⟨h.2, fun k hk => by have := (h.1.2.1 k hk).1; have := hb.size; omega, hb.trans (h.1.2.2.mono hb.size)⟩

theorem Own.lift {w W W' : World} {v : Value} {bs : List UInt8} (h : Own W v bs W') (hb : Below w.heap.size w W) : Own w v bs W' := ⟨h.own, fun k hk => by have := h.new k hk; have := hb.size; omega, hb.trans (h.bb.mono hb.size)⟩

end Go.Proofs.Ytifnjdplbdpelaa
