/- Cuts of fragments; items appended, as a step of a region that draws. No statement of the seat is proved here. -/
import Derived.Test.YteggocgfaejmbaaBase04
namespace Go.Proofs.Yteggocgfaejmbaa
open Go.RowKit

theorem elemItemF : Try.prog.underlying 22 = some (.slice (Try.prog.elem 22)) ∧ Try.prog.elem 22 = 47 := by
  have hu : Try.prog.underlying 22 = some (.slice 47) := Try.underlying22
  have hel : Try.prog.elem 22 = 47 := by unfold Program.elem; rw [hu]
  exact ⟨by rw [hel]; exact hu, hel⟩
/-- l[lo:hi]: what it reads as. -/
theorem FragAt.cut {B : Nat → Prop} {W : World} {l : List FI} {a : Option Addr} {n c lo hi : Nat} (hF : FragAt B W l (.slice a n c)) (h1 : lo ≤ hi) (h2 : hi ≤ n) : FragAt B W ((l.drop lo).take (hi - lo)) (.slice (if c = lo then a else a.map (·.add (lo * 6))) (hi - lo) (c - lo)) := by
  obtain ⟨a', c', hv, hlc, hcm, hI⟩ := hF
  simp only [Value.slice.injEq] at hv
  obtain ⟨rfl, hn, rfl⟩ := hv
  have hlen : ((l.drop lo).take (hi - lo)).length = hi - lo := by rw [List.length_take, List.length_drop]; omega
  refine ⟨_, c - lo, by rw [hlen], by rw [hlen]; omega, by omega, fun j hj => ?_⟩
  have hj' : j < hi - lo := by rwa [hlen] at hj
  have hjl : lo + j < l.length := by omega
  have e : ((l.drop lo).take (hi - lo))[j]'hj = l[lo + j]'hjl := by simp
  rw [e]
  obtain ⟨b, o, pa, pc, ha, hb, hc, hf, hq, hm, hs⟩ := hI (lo + j) hjl
  subst ha
  rw [if_neg (by omega)]
  refine ⟨b, o + lo * 6, pa, pc, by simp only [Option.map_some, Addr.add_mid], hb, ?_, hf, hq, hm, hs⟩
  rw [show o + lo * 6 + j * 6 = o + (lo + j) * 6 by omega]
  exact hc
theorem items_mid {a : Option Addr} {n c lo hi : Nat} (h1 : lo ≤ hi) (h2 : hi ≤ c) {H : Int} (hH : H = ((hi : Nat) : Int)) (W : World) : (Instr.slice 22 (.slice a n c) (some (.int .i64 ((lo : Nat) : Int))) (some (.int .i64 H)) none).run Try.prog W = .ok (.slice (if c = lo then a else a.map (·.add (lo * 6))) (hi - lo) (c - lo)) W := by
  subst hH
  rw [run_slice_lh W 22 a n c elemItemF.1 .i64 .i64 lo hi (by omega) (by omega) (by omega), elemItemF.2]
  have hsz : (sizeOf 47).run Try.prog W = .ok 6 W := by simp [sizeOf]; rfl
  rw [hsz]
  simp only [Result.andThen, sliced, Int.toNat_natCast]
theorem items_to {a : Option Addr} {n c hi : Nat} (h2 : hi ≤ c) (W : World) : (Instr.slice 22 (.slice a n c) none (some (.int .i64 ((hi : Nat) : Int))) none).run Try.prog W = .ok (.slice (if c = 0 then a else a.map (·.add (0 * 6))) (hi - 0) (c - 0)) W := by
  rw [run_slice_h W 22 a n c elemItemF.1 .i64 hi (by omega) (by omega), elemItemF.2]
  have hsz : (sizeOf 47).run Try.prog W = .ok 6 W := by simp [sizeOf]; rfl
  rw [hsz]
  simp only [Result.andThen, sliced, Int.toNat_natCast]
theorem items_from {a : Option Addr} {n c lo : Nat} (h1 : lo ≤ n) (W : World) : (Instr.slice 22 (.slice a n c) (some (.int .i64 ((lo : Nat) : Int))) none none).run Try.prog W = .ok (.slice (if c = lo then a else a.map (·.add (lo * 6))) (n - lo) (c - lo)) W := by
  rw [run_slice_l W 22 a n c elemItemF.1 .i64 lo (by omega) (by omega), elemItemF.2]
  have hsz : (sizeOf 47).run Try.prog W = .ok 6 W := by simp [sizeOf]; rfl
  rw [hsz]
  simp only [Result.andThen, sliced, Int.toNat_natCast]
theorem items_sliceAt (W : World) (u : Value) (a b c : Option Value) : (Instr.sliceAt 22 u a b c).run Try.prog W = (Instr.slice 22 u a b c).run Try.prog W := run_sliceAt_slice W _ _ _ _ _ elemItemF.1
theorem cut_none {a : Option Addr} {c lo : Nat} (h : a = none → c = 0) : (if c = lo then a else a.map (·.add (lo * 6))) = none → c - lo = 0 := by
  intro e
  split at e
  · omega
  · cases a with
    | none => rw [h rfl]; omega
    | some b => cases e

/-- A row of items under way; their names lie in what is there, and not in the row. -/
def IT (W : World) (v : Value) (q : List FI) (Y : World) : Prop := ItemsO W.heap.size (fun Y k => k < Y.heap.size) Y v q ∧ Below W.heap.size W Y
theorem IT.later {W Y Z : World} {v : Value} {q : List FI} (h : IT W v q Y) (hb : Below Y.heap.size Y Z) : IT W v q Z := ⟨h.1.later hb (fun _ hk _ => Nat.lt_of_lt_of_le hk hb.size), h.2.trans (hb.mono h.2.size)⟩
theorem IT.empty {W Y : World} {A : Nat} (hb : Below W.heap.size W Y) (h : Y.heap[A]? = some (.cells #[] 47 (0, 0))) (hA : W.heap.size ≤ A) : IT W (.slice (some ⟨A, 0, none⟩) 0 0) [] Y :=
  ⟨⟨⟨[], ⟨rfl, .inr ⟨A, 0, #[], rfl, Nat.zero_le _, h, Nat.le_refl _, Nat.zero_le _, rfl, rfl⟩⟩, fun i hi => absurd hi (Nat.not_lt_zero i)⟩, fun k hk => by cases hk; exact hA⟩, hb⟩
theorem IT.grow {W Y : World} {v : Value} {q m : List FI} (h : IT W v q Y) {a : Option Addr} {c : Nat} (hm : ItemsAt (fun k => v.ownBlock ≠ some k) Y a m) (hmc : m.length ≤ c) (ha : a = none → c = 0) (hl : q.length + m.length ≤ 1000000) (ty : TypeId) :
    ∃ v' Y', (Builtin.append_ #[22, 22] ty #[v, .slice a m.length c]).run Try.prog Y = .ok v' Y' ∧ IT W v' (q ++ m) Y' ∧ (∀ k, k < Y.heap.size → v.ownBlock ≠ some k → Y'.heap[k]? = Y.heap[k]?) ∧ (v'.ownBlock = v.ownBlock ∨ ∃ k, v'.ownBlock = some k ∧ Y.heap.size ≤ k) := by
  have hm2 : ItemsAt (fun k => k < Y.heap.size ∧ v.ownBlock ≠ some k) Y a m := hm.kept (fun _ _ _ => rfl) (fun k hk hlt => ⟨hlt, hk⟩)
  obtain ⟨v', Y', hrun, hO, hg, hn⟩ := h.1.append h.2.size hm2 (fun W' hW' _ hk _ _ => Nat.lt_of_lt_of_le hk hW'.size) hmc ha (by omega) ty
  refine ⟨v', Y', hrun, ⟨hO, ?_⟩, fun k hk hne => hg.block k hk (fun e => hne e.symm), hn⟩
  exact ⟨hg.os.trans h.2.os, hg.tape.trans h.2.tape, hg.output.trans h.2.output, Nat.le_trans h.2.size hg.size, fun k hk => (hg.block k (Nat.lt_of_lt_of_le hk h.2.size) (fun e => by have := h.1.new k e.symm; omega)).trans (h.2.block k hk)⟩

/-- A slice of items is appended to a row of ours, as one step of a region that draws. -/
theorem step_append_itF {W Y : World} {ops : Array Oper} {o : Oper} {a : Act} {K : Act → World → Prop} {Q : Exit → Act → World → Prop} {Ep : Prop}
    (hg : o.guard = none) (s x : Operand) (hop : o.op = Op.call { callee := Callee.builtin Builtin.append, args := #[s, x], argTypes := #[22, 22] })
    (v : Value) (q : List FI) (hsv : a.eval s = v) (hO : IT W v q Y) (ya : Option Addr) (n c : Nat) (m : List FI) (hx : a.eval x = .slice ya n c) (hm : FragAt (fun k => v.ownBlock ≠ some k) Y m (.slice ya n c)) (ha : ya = none → c = 0) (hl : q.length + m.length ≤ 1000000)
    (hK : ∀ v' Y', IT W v' (q ++ m) Y' → (∀ k, k < Y.heap.size → v.ownBlock ≠ some k → Y'.heap[k]? = Y.heap[k]?) → (v'.ownBlock = v.ownBlock ∨ ∃ k, v'.ownBlock = some k ∧ Y.heap.size ≤ k) → K (a.put o.dst v') Y') :
    if Region.wanted o (yielded ops a.tmps) = true then Oper.wp Try.prog o a Y K Q else Ep := by
  have hw : Region.wanted o (yielded ops a.tmps) = true := by simp [Region.wanted, hg]
  rw [if_pos hw]
  obtain ⟨a', c', hv, hlc, hcm, hI⟩ := hm
  simp only [Value.slice.injEq] at hv
  obtain ⟨rfl, rfl, rfl⟩ := hv
  obtain ⟨v', Y', hrun, h1, h2, h3⟩ := hO.grow hI hlc ha hl o.type
  unfold Oper.wp
  simp [execOp, hop, resolve, invoke, builtin, hsv, hx, hrun, Result.andThen]
  exact hK v' Y' h1 h2 h3
/-- What was there is in no row of ours. -/
theorem IT.old {W Y Z : World} {v : Value} {q m : List FI} {u : Value} (h : IT W v q Y) (hm : FragAt (fun k => k < W.heap.size) Z m u) : FragAt (fun k => v.ownBlock ≠ some k) Z m u := hm.wider fun k hk e => by have := h.1.new k e; omega
theorem one_itemF {W Y : World} {v : Value} {q : List FI} (h : IT W v q Y) {z zo : ByteArray} {K : Nat} {pa : Option Addr} {pn pc : Nat} {wd qt : Int} {x : FI} (hx : x.At (fun k => k < W.heap.size) Y (.agg #[.string z, .int .u8 ((K : Nat) : Int), .slice pa pn pc, .string zo, .int .i64 wd, .int .i64 qt])) {g : Nat} {t : TypeId} (hg : Y.heap[g]? = some (.cells #[.string z, .int .u8 ((K : Nat) : Int), .slice pa pn pc, .string zo, .int .i64 wd, .int .i64 qt] t (0, 0))) (hne : v.ownBlock ≠ some g) : FragAt (fun k => v.ownBlock ≠ some k) Y [x] (.slice (some ⟨g, 0, none⟩) 1 1) := by
  obtain ⟨i0, i1, i2, i3, i4, i5⟩ := cells6 hg
  refine ⟨_, 1, rfl, Nat.le_refl _, by unfold maxLen; omega, fun j hj => ?_⟩
  obtain rfl : j = 0 := by simp at hj; omega
  show FI.Elem _ Y x _ 0
  obtain ⟨rfl, rfl, rfl, rfl, rfl, rfl, q1, q2, q3, q4⟩ := hx.parts
  exact ⟨_, 0, pa, pc, rfl, hne, ⟨i0, i1, i2, i3, i4, i5⟩, q1, q2, q3, q4.kept (fun _ _ _ => rfl) (fun k hk _ e => by have := h.1.new k e; omega)⟩
/-- One item alone, somewhere. -/
theorem lone_itemF {B : Nat → Prop} {Y : World} {z zo : ByteArray} {K : Nat} {pa : Option Addr} {pn pc : Nat} {wd qt : Int} {x : FI} (hx : x.At B Y (.agg #[.string z, .int .u8 ((K : Nat) : Int), .slice pa pn pc, .string zo, .int .i64 wd, .int .i64 qt])) {g : Nat} {t : TypeId} (hg : Y.heap[g]? = some (.cells #[.string z, .int .u8 ((K : Nat) : Int), .slice pa pn pc, .string zo, .int .i64 wd, .int .i64 qt] t (0, 0))) : FragAt (fun _ => True) Y [x] (.slice (some ⟨g, 0, none⟩) 1 1) := by
  obtain ⟨i0, i1, i2, i3, i4, i5⟩ := cells6 hg
  refine ⟨_, 1, rfl, Nat.le_refl _, by unfold maxLen; omega, fun j hj => ?_⟩
  obtain rfl : j = 0 := by simp at hj; omega
  show FI.Elem _ Y x _ 0
  obtain ⟨rfl, rfl, rfl, rfl, rfl, rfl, q1, q2, q3, q4⟩ := hx.parts
  exact ⟨_, 0, pa, pc, rfl, trivial, ⟨i0, i1, i2, i3, i4, i5⟩, q1, q2, q3, q4.kept (fun _ _ _ => rfl) (fun _ _ _ => trivial)⟩
theorem rightF_one (x : FI) : rightF [x] = x.right := by simp [rightF]
theorem rightF_more (l : List FI) (x : FI) (k : Nat) : rightF (l.take k ++ [x] ++ l.drop k) = (l.all FI.right && x.right && decide (l.length + 1 ≤ 40)) := by
  have h1 : (l.take k ++ [x] ++ l.drop k).length = l.length + 1 := by simp; omega
  have h2 : (l.take k ++ [x] ++ l.drop k).all FI.right = (l.all FI.right && x.right) := by
    conv => { rhs; rw [← List.take_append_drop k l] }
    simp only [List.all_append, List.all_cons, List.all_nil, Bool.and_true]
    cases (l.take k).all FI.right <;> cases x.right <;> cases (l.drop k).all FI.right <;> rfl
  unfold rightF
  rw [h1, h2, Bool.and_comm]
end Go.Proofs.Yteggocgfaejmbaa
