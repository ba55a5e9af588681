/- What a right head package answers, as far as it asks no disk. Our own definitions; no statement of the seat is proved here. -/
import Derived.Test.YtoabpjdpdcpdlaaHeadPick
import Derived.Test.YtoabpjdpdcpdlaaLowSame
namespace Go.Proofs.Ytoabpjdpdcpdlaa
open Go.RowKit

/-- Right, Bytes, Read, Pick. -/
structure HeadPure : Prop where
  right : ∀ (s e l : Nat) (w : World), (HeadD.mk s e l).fits → Calls Try.prog 17 #[.agg #[.int .u64 ((s : Nat) : Int), .int .u64 ((e : Nat) : Int), .int .u8 ((l : Nat) : Int)]] w fun e' w' => e' = .returned (.bool (HeadD.mk s e l).right) ∧ Below w.heap.size w w'
  bytes : ∀ (s e l : Nat) (w : World), (HeadD.mk s e l).fits → Calls Try.prog 10 #[.agg #[.int .u64 ((s : Nat) : Int), .int .u64 ((e : Nat) : Int), .int .u8 ((l : Nat) : Int)]] w fun e' w' => ∃ v, e' = .returned (.tuple #[v, .int .i64 (hbErr ⟨s, e, l⟩)]) ∧ Bytes w' v (hbOf ⟨s, e, l⟩) ∧ Below w.heap.size w w'
  read : ∀ (u : Value) (b : List UInt8) (w : World), Bytes w u b → Calls Try.prog 12 #[u] w fun e' w' => e' = .returned (.tuple #[(readH b).val, .bool (isHead b)]) ∧ Below w.heap.size w w'
  pick : ∀ (u v : Value) (zero one : List UInt8) (w : World), Bytes w u zero → Bytes w v one → Calls Try.prog 14 #[u, v] w fun e' w' => e' = .returned (.tuple #[(pickV zero one).val, .bool (pickH zero one).isSome]) ∧ Below w.heap.size w w'

/-- The chapter's examples. -/
def HeadAwake : Prop := ∀ w : World, Calls Try.prog 9 #[] w fun e' w' => e' = .returned (.bool true) ∧ Below w.heap.size w w'

/-- What is kept along a walk: rows of bytes, heads in blocks. -/
structure Kh (w W : World) (L : List (Value × List UInt8)) (M : List (Nat × Array Value)) : Prop where
  bb : Below w.heap.size w W
  byt : ∀ p ∈ L, Bytes W p.1 p.2
  ce : ∀ p ∈ M, W.heap[p.1]? = some (Obj.cells p.2 24 (0, 0))
theorem Kh.start (w : World) : Kh w w [] [] := ⟨Below.refl _ w, fun p hp => (by cases hp), fun p hp => (by cases hp)⟩
theorem Kh.later {w W W' : World} {L : List (Value × List UInt8)} {M : List (Nat × Array Value)} (h : Kh w W L M) (hb : Below W.heap.size W W') : Kh w W' L M :=
  ⟨h.bb.trans (hb.mono h.bb.size), fun p hp => (h.byt p hp).kept fun k _ hk => hb.block k hk, fun p hp => (hb.block _ (Array.getElem?_eq_some_iff.1 (h.ce p hp)).1).trans (h.ce p hp)⟩
theorem Kh.addB {w W : World} {L : List (Value × List UInt8)} {M : List (Nat × Array Value)} (h : Kh w W L M) {v : Value} {bs : List UInt8} (hv : Bytes W v bs) : Kh w W ((v, bs) :: L) M :=
  ⟨h.bb, fun p hp => (List.mem_cons.1 hp).elim (fun e => by rw [e]; exact hv) (h.byt p), h.ce⟩
theorem Kh.addC {w W : World} {L : List (Value × List UInt8)} {M : List (Nat × Array Value)} (h : Kh w W L M) {g : Nat} {cs : Array Value} (hv : W.heap[g]? = some (Obj.cells cs 24 (0, 0))) : Kh w W L ((g, cs) :: M) :=
  ⟨h.bb, h.byt, fun p hp => (List.mem_cons.1 hp).elim (fun e => by rw [e]; exact hv) (h.ce p)⟩
theorem Kh.newC {w W : World} {L : List (Value × List UInt8)} {M : List (Nat × Array Value)} (h : Kh w W L M) (cs : Array Value) : Kh w (W.alloc (.cells cs 24)) L ((W.heap.size, cs) :: M) :=
  (h.later ((Below.refl _ W).alloc (Nat.le_refl _) _)).addC (heap_alloc_new W _)
/-- The three cells of a head that is kept. -/
theorem Kh.three {w W : World} {L : List (Value × List UInt8)} {M : List (Nat × Array Value)} (h : Kh w W L M) {g : Nat} {x y z : Value} (hm : (g, #[x, y, z]) ∈ M) : W.cell? ⟨g, 0, none⟩ = some x ∧ W.cell? ⟨g, 1, none⟩ = some y ∧ W.cell? ⟨g, 2, none⟩ = some z :=
  ⟨cell_of_row _ _ 0 _ _ _ (h.ce _ hm), cell_of_row _ _ 1 _ _ _ (h.ce _ hm), cell_of_row _ _ 2 _ _ _ (h.ce _ hm)⟩

theorem hb_ok_iff {h : HeadD} : (hbErr h == 0) = h.right := by
  unfold hbErr
  cases h.right <;> rfl
theorem hbOf_len (h : HeadD) : (hbOf h).length = 32 ∨ (hbOf h).length = 0 := by
  unfold hbOf
  split
  · exact .inl h.bytes_len
  · exact .inr rfl
end Go.Proofs.Ytoabpjdpdcpdlaa
