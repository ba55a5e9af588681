/- Bytes in memory and small laws that texts of every layer want. Our own definitions; no statement of the seat is proved here. -/
import Derived.Test.YtifnjdplbdpelaaMem
import Derived.Deep.RegionWith
import Derived.Deep.QuietTactic
import Derived.BigQuiet
import Derived.BigRegion
import Derived.LoopN
import Derived.Deep.DeepCutAuto
import Derived.Deep.RegionHeld3
import Derived.Laws.CopyOwn
import Derived.Laws.EntriesVeiled
import Derived.Laws.BitsAllLaws
namespace Go.Proofs.Ytifnjdplbdpelaa
open Go.RowKit

theorem ret_int {k : IntKind} {a b : Int} (h : a = b) : Ending.returned (.int k a) = .returned (.int k b) := by rw [h]
theorem ret_bool {a b : Bool} (h : a = b) : Ending.returned (.bool a) = .returned (.bool b) := by rw [h]
theorem hide {q : Prop} (h : q) : Hid q := h
theorem unhide {q : Prop} (h : Hid q) : q := h
theorem infoByte0 : (Try.prog.info? 5).map (fun i => (i.zero, i.size, i.bytes)) = some (some (.int .u8 0), 1, 1) := by kernel_rfl
theorem infoByte : ∃ i, Try.prog.info? 5 = some i ∧ i.zero = some (.int .u8 0) ∧ i.size = 1 ∧ i.bytes = 1 := info_parts infoByte0

/-- min of two numbers, in one way. -/
theorem wpList_min2 {P : Program} {w : World} {ops : Array Oper} {rest : List Oper} {op : Oper} {a : Act} {Q : Exit → Act → World → Prop} (hgd : op.guard = none) (x y : Operand) (t s : TypeId)
    (ho : op.op = .call { callee := .builtin .min, args := #[x, y], argTypes := #[t, s] }) (k k' : IntKind) (m n : Int) (hx : a.eval x = .int k m) (hy : a.eval y = .int k' n)
    (h : wpList P ops Q rest (a.put op.dst (.int k (min m n))) w) : wpList P ops Q (op :: rest) a w := by
  refine wpList_plain hgd fun K hK => ?_
  have hrun : (Builtin.min_ #[t, s] op.type #[.int k m, .int k' n]).run P w = .ok (.int k (min m n)) w := by
    rw [run_min_int2]; congr 2; split <;> omega
  unfold Oper.wp
  simp [execOp, ho, resolve, invoke, builtin, hx, hy, hrun, Result.andThen]
  exact hK _ _ h

theorem Bytes.form {w : World} {u : Value} {bs : List UInt8} (h : Bytes w u bs) : ∃ a c, u = .slice a bs.length c ∧ bs.length ≤ c := by
  rcases h with ⟨rfl, rfl⟩ | ⟨a, c, rfl, hl, _⟩
  · exact ⟨_, _, rfl, Nat.le_refl _⟩
  · exact ⟨_, _, rfl, hl⟩
theorem bytes_len {w : World} {a : Option Addr} {n c : Nat} {bs : List UInt8} (h : Bytes w (.slice a n c) bs) : bs.length = n ∧ n ≤ c := by
  obtain ⟨_, _, hv, hl⟩ := h.form
  simp only [Value.slice.injEq] at hv
  obtain ⟨_, rfl, rfl⟩ := hv
  exact ⟨rfl, hl⟩
theorem Bytes.max {w : World} {u : Value} {bs : List UInt8} (h : Bytes w u bs) : bs.length ≤ 140737488355328 ∨ bs.length ≤ maxLen := by
  rcases h with ⟨_, rfl⟩ | ⟨a, c, _, hl, hm, _⟩
  · exact .inl (by simp)
  · exact .inr (by omega)
theorem Bytes.take {w : World} {a : Option Addr} {n c m : Nat} {bs : List UInt8} (h : Bytes w (.slice a n c) bs) (hm : m ≤ n) (hl : bs.length = n) : Bytes w (.slice a m c) (bs.take m) := by
  have hlt : (bs.take m).length = m := by rw [List.length_take]; omega
  rcases h with ⟨hv, rfl⟩ | ⟨ad, c', hv, hl1, hl2, hr⟩
  · simp only [Value.slice.injEq] at hv
    obtain ⟨rfl, rfl, rfl⟩ := hv
    have : m = 0 := by omega
    subst this
    exact .inl ⟨rfl, by simp⟩
  · simp only [Value.slice.injEq] at hv
    obtain ⟨rfl, _, rfl⟩ := hv
    refine .inr ⟨ad, c, by rw [hlt], by omega, hl2, fun j x hx => hr j x ?_⟩
    rw [List.map_take, List.getElem?_take] at hx
    split at hx
    · exact hx
    · cases hx
/-- A byte of a slice. -/
theorem Bytes.at {w : World} {a : Option Addr} {n c : Nat} {bs : List UInt8} (h : Bytes w (.slice a n c) bs) {i : Nat} (hi : i < n) (hl : bs.length = n) : ∃ ad, a = some ad ∧ w.cell? (ad.add i) = some (.int .u8 ((bs.getD i 0).toNat : Nat)) := by
  rcases h with ⟨hv, rfl⟩ | ⟨ad, c', hv, hl1, hl2, hr⟩
  · simp only [Value.slice.injEq] at hv
    omega
  · simp only [Value.slice.injEq] at hv
    obtain ⟨rfl, _, rfl⟩ := hv
    refine ⟨ad, rfl, hr i _ ?_⟩
    rw [List.getElem?_map, List.getElem?_eq_getElem (by omega), List.getD_eq_getElem?_getD, List.getElem?_eq_getElem (by omega)]
    rfl

/-- r holds the bytes, in a block that is new since w. -/
def Fresh (w w' : World) (r : Value) (bs : List UInt8) : Prop := Bytes w' r bs ∧ (∀ k, r.ownBlock = some k → w.heap.size ≤ k ∧ k < w'.heap.size) ∧ Below w.heap.size w w'

theorem own_keeps {W W' : World} {e : TypeId} {v : Value} {n : Nat} {xs : List Value} (h : W.ownsRow 0 e 1 v n xs) (hk : ∀ k, v.ownBlock = some k → W'.heap[k]? = W.heap[k]?) : W'.ownsRow 0 e 1 v n xs := by
  refine ⟨h.1, ?_⟩
  rcases h.2 with hn | ⟨g, cap, cur, hv, hb0, hg, rest⟩
  · exact .inl hn
  · refine .inr ⟨g, cap, cur, hv, hb0, ?_, rest⟩
    rw [hk g (by rw [hv]; rfl)]; exact hg

/-- A byte of an owned row, read and written. -/
theorem own_at {W : World} {a : Option Addr} {n c : Nat} {bs : List UInt8} (h : W.ownsRow 0 5 1 (.slice a n c) bs.length (bs.map bv)) (hl : bs.length = n) {k : Nat} (hk : k < n) : ∃ b, a = some ⟨b, 0, none⟩ ∧ W.cell? ⟨b, k, none⟩ = some (.int .u8 ((bs.getD k 0).toNat : Nat)) ∧ W.frozen? ⟨b, k, none⟩ = false ∧
    ∀ y : UInt8, (W.setCell ⟨b, k, none⟩ (.int .u8 (y.toNat : Nat))).ownsRow 0 5 1 (.slice a n c) (bs.set k y).length ((bs.set k y).map bv) := by
  have h0 := h
  subst hl
  rcases h.2 with ⟨hv, hn⟩ | ⟨g, cap, cur, hv, hb0, hg, hn, hm, hcs, htk⟩
  · omega
  · simp only [Value.slice.injEq] at hv
    obtain ⟨rfl, _, rfl⟩ := hv
    have hx : (bs.map bv)[k]? = some (bv (bs.getD k 0)) := by rw [List.getElem?_map, List.getElem?_eq_getElem hk, List.getD_eq_getElem?_getD, List.getElem?_eq_getElem hk]; rfl
    have hc := h0.cells (g := g) rfl k _ hx
    refine ⟨g, rfl, ?_, frozen_of_row _ _ _ _ _ hg, fun y => ⟨by simp, .inr ⟨g, c, cur.setIfInBounds k (.int .u8 (y.toNat : Nat)), by simp, hb0, ?_, by simpa using hn, hm, by simpa using hcs, ?_⟩⟩⟩
    · have hc' : W.cell? ⟨g, k, none⟩ = some (bv (bs.getD k 0)) := by simpa [Addr.add_mid] using hc
      exact hc'
    · rw [heap_setCell_same _ _ _ _ _ _ hg]
    · simp only [Nat.mul_one, List.length_set] at htk ⊢
      rw [Array.toList_setIfInBounds, show (Value.int .u8 (y.toNat : Nat)) = bv y from rfl, List.map_set, ← htk, List.take_set]

/-- The empty row that 'append([]byte..)' begins with. -/
theorem own_nil (w : World) : (w.alloc (.cells #[] 5)).ownsRow 0 5 1 (.slice (some ⟨w.heap.size, 0, none⟩) 0 0) ([] : List UInt8).length (([] : List UInt8).map bv) :=
  ⟨by simp, .inr ⟨w.heap.size, 0, #[], rfl, Nat.zero_le _, heap_alloc_new w _, Nat.le_refl _, by decide, rfl, by simp⟩⟩
end Go.Proofs.Ytifnjdplbdpelaa
