/- FragRefD, FragRefE: our own definitions and contracts; no statement of the seat is proved here. -/
import Derived.Test.YtdlbpbglidhlfaaGreatDoorBase15
import Derived.Test.YtdlbpbglidhlfaaGreatDoorBase05
namespace Go.Proofs.YtdlbpbglidhlfaaGreatDoor
open Go.RowKit

/-- Any text will do. -/
def anyT (_ : List UInt8) : Bool := true
theorem itemS_eq (p : List UInt8 → Bool) (st : Option (List UInt8)) : itemS p st =
    (if (numS 1 (textS p st).2).1 = 1 then
      (⟨(textS p st).1, (numS 1 (textS p st).2).1, (listS (textS p) (numS 20 (numS 1 (textS p st).2).2).1 (numS 20 (numS 1 (textS p st).2).2).2).1, (textS p (numS 400 (listS (textS p) (numS 20 (numS 1 (textS p st).2).2).1 (numS 20 (numS 1 (textS p st).2).2).2).2).2).1, (((numS 40 (textS p (numS 400 (listS (textS p) (numS 20 (numS 1 (textS p st).2).2).1 (numS 20 (numS 1 (textS p st).2).2).2).2).2).2).1 : Nat) : Int), (((numS 400 (listS (textS p) (numS 20 (numS 1 (textS p st).2).2).1 (numS 20 (numS 1 (textS p st).2).2).2).2).1 : Nat) : Int)⟩, (numS 40 (textS p (numS 400 (listS (textS p) (numS 20 (numS 1 (textS p st).2).2).1 (numS 20 (numS 1 (textS p st).2).2).2).2).2).2).2)
    else (⟨(textS p st).1, (numS 1 (textS p st).2).1, (listS (textS p) (numS 20 (numS 1 (textS p st).2).2).1 (numS 20 (numS 1 (textS p st).2).2).2).1, [], 0, (((numS 400 (listS (textS p) (numS 20 (numS 1 (textS p st).2).2).1 (numS 20 (numS 1 (textS p st).2).2).2).2).1 : Nat) : Int)⟩, (numS 400 (listS (textS p) (numS 20 (numS 1 (textS p st).2).2).1 (numS 20 (numS 1 (textS p st).2).2).2).2).2)) := rfl
theorem itemS_no5 {p : List UInt8 → Bool} {st : Option (List UInt8)} (h : (numS 400 (listS (textS p) (numS 20 (numS 1 (textS p st).2).2).1 (numS 20 (numS 1 (textS p st).2).2).2).2).2 = none) : (itemS p st).2 = none := by
  rw [itemS_eq]
  split
  · simp only [h, textS_none, numS_none]
  · exact h
theorem itemS_no4 {p : List UInt8 → Bool} {st : Option (List UInt8)} (h : (listS (textS p) (numS 20 (numS 1 (textS p st).2).2).1 (numS 20 (numS 1 (textS p st).2).2).2).2 = none) : (itemS p st).2 = none := itemS_no5 (by rw [h, numS_none])
theorem itemS_no3 {p : List UInt8 → Bool} {st : Option (List UInt8)} (h : (numS 20 (numS 1 (textS p st).2).2).2 = none) : (itemS p st).2 = none := itemS_no4 (by rw [h]; exact (textS_codec p).listNone _)
theorem itemS_no2 {p : List UInt8 → Bool} {st : Option (List UInt8)} (h : (numS 1 (textS p st).2).2 = none) : (itemS p st).2 = none := itemS_no3 (by rw [h, numS_none])
theorem itemS_no1 {p : List UInt8 → Bool} {st : Option (List UInt8)} (h : (textS p st).2 = none) : (itemS p st).2 = none := itemS_no2 (by rw [h, numS_none])
theorem listS_stays {α : Type} {f : Option (List UInt8) → α × Option (List UInt8)} {P : α → Prop} {enc : α → List UInt8} (h : Codec f P enc) {i : Nat} {st : Option (List UInt8)} (hi : (listS f i st).2 = none) : ∀ d, (listS f (i + d) st).2 = none
  | 0 => hi
  | d + 1 => by
    have := listS_stays h hi d
    show (f (listS f (i + d) st).2).2 = none
    rw [this, h.stop]

section
variable {p : List UInt8 → Bool} {st : Option (List UInt8)} {s so : List UInt8} {K M Q D : Nat} {q : List (List UInt8)} {r1 r2 r3 r4 r5 r6 r7 : List UInt8}
theorem itemS_f2 (ha : textS p st = (s, some r1)) (h : (numS 1 (some r1)).2 = none) : (itemS p st).2 = none := itemS_no2 (by rw [ha]; exact h)
theorem itemS_f3 (ha : textS p st = (s, some r1)) (hb : numS 1 (some r1) = (K, some r2)) (h : (numS 20 (some r2)).2 = none) : (itemS p st).2 = none := itemS_no3 (by rw [ha]; dsimp only; rw [hb]; exact h)
theorem itemS_f4 (ha : textS p st = (s, some r1)) (hb : numS 1 (some r1) = (K, some r2)) (hc : numS 20 (some r2) = (M, some r3)) (h : (listS (textS p) M (some r3)).2 = none) : (itemS p st).2 = none := itemS_no4 (by rw [ha]; dsimp only; rw [hb]; dsimp only; rw [hc]; exact h)
theorem itemS_f5 (ha : textS p st = (s, some r1)) (hb : numS 1 (some r1) = (K, some r2)) (hc : numS 20 (some r2) = (M, some r3)) (hd : listS (textS p) M (some r3) = (q, some r4)) (h : (numS 400 (some r4)).2 = none) : (itemS p st).2 = none := itemS_no5 (by rw [ha]; dsimp only; rw [hb]; dsimp only; rw [hc]; dsimp only; rw [hd]; exact h)
theorem itemS_form (ha : textS p st = (s, some r1)) (hb : numS 1 (some r1) = (K, some r2)) (hc : numS 20 (some r2) = (M, some r3)) (hd : listS (textS p) M (some r3) = (q, some r4)) (he : numS 400 (some r4) = (Q, some r5)) : itemS p st = if K = 1 then (⟨s, K, q, (textS p (some r5)).1, (((numS 40 (textS p (some r5)).2).1 : Nat) : Int), ((Q : Nat) : Int)⟩, (numS 40 (textS p (some r5)).2).2) else (⟨s, K, q, [], 0, ((Q : Nat) : Int)⟩, some r5) := by
  rw [itemS_eq]
  rw [ha]; dsimp only; rw [hb]; dsimp only; rw [hc]; dsimp only; rw [hd]; dsimp only; rw [he]
end
theorem refNum_cases {bs : List UInt8} {e : Ending} (most : Nat) (h : RefNum bs e) : (∃ N k : Nat, e = .returned (.tuple #[.int .i64 ((N : Nat) : Int), .int .i64 ((k : Nat) : Int)]) ∧ N ≤ most ∧ 0 < k ∧ k ≤ 10 ∧ k ≤ bs.length ∧ numS most (some bs) = (N, some (bs.drop k))) ∨
    ((numS most (some bs)).2 = none ∧ ∃ (x : Int) (k : Nat), e = .returned (.tuple #[.int .i64 x, .int .i64 ((k : Nat) : Int)]) ∧ ((((k : Nat) : Int) == 0) = true ∨ ((((k : Nat) : Int) == 0) = false ∧ x < 0) ∨ ((((k : Nat) : Int) == 0) = false ∧ ¬ x < 0 ∧ x > ((most : Nat) : Int)))) := by
  rcases h with ⟨x, k, hr, rfl⟩ | ⟨hNo, rfl⟩
  · have hk : (((k : Nat) : Int) == 0) = false := by rw [beq_eq_false_iff_ne]; have := hr.pos; omega
    by_cases h0 : x < 0
    · refine .inr ⟨?_, x, k, rfl, .inr (.inl ⟨hk, h0⟩)⟩
      rw [numS_no fun N k' hr' => by obtain ⟨e, _⟩ := hr.same hr'; omega]
    · by_cases h1 : x > ((most : Nat) : Int)
      · refine .inr ⟨?_, x, k, rfl, .inr (.inr ⟨hk, h0, h1⟩)⟩
        rw [numS_no fun N k' hr' => by obtain ⟨e, _⟩ := hr.same hr'; omega]
      · obtain ⟨N, rfl⟩ : ∃ N : Nat, x = ((N : Nat) : Int) := ⟨x.toNat, by omega⟩
        exact .inl ⟨N, k, rfl, by omega, hr.pos, hr.ten, hr.le, numS_ok hr (by omega)⟩
  · refine .inr ⟨?_, 0, 0, rfl, .inl rfl⟩
    rw [numS_no fun N k' hr' => absurd hr' (hNo _ _)]
theorem refText_cases {bs : List UInt8} {e : Ending} (h : RefText bs 20 e) : (∃ (s : List UInt8) (k : Nat), e = .returned (.tuple #[.string ⟨s.toArray⟩, .int .i64 ((k : Nat) : Int), .bool true]) ∧ s.length ≤ 20 ∧ 0 < k ∧ k ≤ bs.length ∧ textS anyT (some bs) = (s, some (bs.drop k))) ∨
    ((textS anyT (some bs)).2 = none ∧ e = .returned (.tuple #[.string ⟨#[]⟩, .int .i64 0, .bool false])) := by
  rcases h with ⟨s, k, hr, rfl⟩ | ⟨hNo, rfl⟩
  · exact .inl ⟨s, k + s.length, rfl, by have := hr.most; omega, by have := hr.num.pos; omega, hr.le, textS_ok hr rfl⟩
  · exact .inr ⟨by rw [textS_no fun s k h => absurd h (hNo s k)], rfl⟩

theorem results_ctF {P : Program} {fn : Func} {p u : Tmp} {ty : TypeId} (h : fn.results = #[.cell p ty, .tmp u]) (tmps : Array Value) (w : World) (g : Nat) (t : TypeId) (cs : Array Value) (fr : Nat × Nat) (d : TypeDesc)
    (hp : tmps.getD p undef = .pointer (some ⟨g, 0, none⟩)) (hg : w.heap[g]? = some (.cells cs t fr))
    (hu : P.underlying ty = some d) (hd : (match d with | .struct _ | .array _ _ => true | _ => false) = true) (hi : (P.info? ty).map (·.size) = some cs.size) :
    (results fn tmps).run P w = .ok (.tuple #[.agg cs, tmps.getD u undef]) w := by
  have hp' : tmps[p]?.getD undef = .pointer (some ⟨g, 0, none⟩) := by simpa using hp
  simp only [results, h]
  simp [Result.andThen, hp', asAddr, run_loadVar_row w g t ty cs fr d hg hu hd hi]
theorem set6_below {B : Nat} {w W : World} {g : Nat} (h : Below B w W) (hg : B ≤ g) (v0 v1 v2 v3 v4 v5 : Value) :
    Below B w ((((((W.setCell ⟨g, 0, none⟩ v0).setCell ⟨g, 1, none⟩ v1).setCell ⟨g, 2, none⟩ v2).setCell ⟨g, 3, none⟩ v3).setCell ⟨g, 4, none⟩ v4).setCell ⟨g, 5, none⟩ v5) :=
  (((((h.setCell (p := ⟨g, 0, none⟩) hg v0).setCell (p := ⟨g, 1, none⟩) hg v1).setCell (p := ⟨g, 2, none⟩) hg v2).setCell (p := ⟨g, 3, none⟩) hg v3).setCell (p := ⟨g, 4, none⟩) hg v4).setCell (p := ⟨g, 5, none⟩) hg v5

/-- An item that the document reads: its struct in the second new block, the result's in the first. -/
structure ItR (w : World) (row : Array Value) (W : World) : Prop where
  bb : Below w.heap.size w W
  b2 : W.heap[w.heap.size]? = some (.cells #[.string ⟨#[]⟩, .int .u8 0, .slice none 0 0, .string ⟨#[]⟩, .int .i64 0, .int .i64 0] 62 (0, 0))
  b3 : W.heap[w.heap.size + 1]? = some (.cells row 62 (0, 0))
theorem ItR.set {w W : World} {row : Array Value} (h : ItR w row W) (o : Nat) (v : Value) : ItR w (row.setIfInBounds o v) (W.setCell ⟨w.heap.size + 1, o, none⟩ v) :=
  ⟨h.bb.setCell (p := ⟨w.heap.size + 1, o, none⟩) (by show w.heap.size ≤ w.heap.size + 1; omega) v, (Below.heap_setCell _ _ _ _ (by show w.heap.size ≠ w.heap.size + 1; omega)).trans h.b2, heap_setCell_same _ _ _ _ _ _ h.b3⟩
theorem ItR.kept {w W W' : World} {row : Array Value} (h : ItR w row W) (hb : Below w.heap.size w W') (hk : ∀ k, k < w.heap.size + 2 → W'.heap[k]? = W.heap[k]?) : ItR w row W' :=
  ⟨hb, (hk _ (by omega)).trans h.b2, (hk _ (by omega)).trans h.b3⟩
theorem ItR.cells {w W : World} {v0 v1 v2 v3 v4 v5 : Value} (h : ItR w #[v0, v1, v2, v3, v4, v5] W) : (W.cell? ⟨w.heap.size + 1, 0, none⟩ = some v0 ∧ W.cell? ⟨w.heap.size + 1, 1, none⟩ = some v1 ∧ W.cell? ⟨w.heap.size + 1, 2, none⟩ = some v2 ∧ W.cell? ⟨w.heap.size + 1, 3, none⟩ = some v3 ∧ W.cell? ⟨w.heap.size + 1, 4, none⟩ = some v4 ∧ W.cell? ⟨w.heap.size + 1, 5, none⟩ = some v5) ∧ (∀ i, W.frozen? ⟨w.heap.size + 1, i, none⟩ = false) ∧
    (W.cell? ⟨w.heap.size, 0, none⟩ = some (.string ⟨#[]⟩) ∧ W.cell? ⟨w.heap.size, 1, none⟩ = some (.int .u8 0) ∧ W.cell? ⟨w.heap.size, 2, none⟩ = some (.slice none 0 0) ∧ W.cell? ⟨w.heap.size, 3, none⟩ = some (.string ⟨#[]⟩) ∧ W.cell? ⟨w.heap.size, 4, none⟩ = some (.int .i64 0) ∧ W.cell? ⟨w.heap.size, 5, none⟩ = some (.int .i64 0)) ∧ (∀ i, W.frozen? ⟨w.heap.size, i, none⟩ = false) :=
  ⟨cells6 h.b3, fun _ => frozen_of_row _ _ _ _ _ h.b3, cells6 h.b2, fun _ => frozen_of_row _ _ _ _ _ h.b2⟩

/-- What read tells. -/
def ReadM (w : World) (n : Nat) (bs : List UInt8) (e : Ending) (W : World) : Prop :=
  Below w.heap.size w W ∧ ((∃ (x : FI) (P : Nat) (z : ByteArray) (K : Nat) (pa : Option Addr) (pn pc : Nat) (zo : ByteArray) (wd qt : Int), itemS anyT (some bs) = (x, some (bs.drop P)) ∧ P ≤ n ∧ 0 < P ∧ e = .returned (.tuple #[.agg #[.string z, .int .u8 ((K : Nat) : Int), .slice pa pn pc, .string zo, .int .i64 wd, .int .i64 qt], .int .i64 ((P : Nat) : Int)]) ∧ x.At (BNew w.heap.size W) W (.agg #[.string z, .int .u8 ((K : Nat) : Int), .slice pa pn pc, .string zo, .int .i64 wd, .int .i64 qt])) ∨
    (∃ (z : ByteArray) (K : Int) (pa : Option Addr) (pn pc : Nat) (zo : ByteArray) (wd qt : Int), (itemS anyT (some bs)).2 = none ∧ e = .returned (.tuple #[.agg #[.string z, .int .u8 K, .slice pa pn pc, .string zo, .int .i64 wd, .int .i64 qt], .int .i64 0])))
theorem rd_fail {w W : World} {n : Nat} {bs : List UInt8} {z zo : ByteArray} {pa : Option Addr} {pn pc : Nat} {K wd qt : Int} (h : ItR w #[.string z, .int .u8 K, .slice pa pn pc, .string zo, .int .i64 wd, .int .i64 qt] W) (hno : (itemS anyT (some bs)).2 = none) : ReadM w n bs (.returned (.tuple #[.agg #[.string z, .int .u8 K, .slice pa pn pc, .string zo, .int .i64 wd, .int .i64 qt], .int .i64 0])) ((((((W.setCell ⟨w.heap.size, 0, none⟩ (.string z)).setCell ⟨w.heap.size, 1, none⟩ (.int .u8 K)).setCell ⟨w.heap.size, 2, none⟩ (.slice pa pn pc)).setCell ⟨w.heap.size, 3, none⟩ (.string zo)).setCell ⟨w.heap.size, 4, none⟩ (.int .i64 wd)).setCell ⟨w.heap.size, 5, none⟩ (.int .i64 qt)) :=
  ⟨set6_below h.bb (Nat.le_refl _) _ _ _ _ _ _, .inr ⟨z, K, pa, pn, pc, zo, wd, qt, hno, rfl⟩⟩
theorem rd_ok {w W : World} {n P : Nat} {bs : List UInt8} {z zo : ByteArray} {K pn pc : Nat} {pa : Option Addr} {wd qt : Int} {x : FI} (h : ItR w #[.string z, .int .u8 ((K : Nat) : Int), .slice pa pn pc, .string zo, .int .i64 wd, .int .i64 qt] W) (hS : StrsO (w.heap.size + 2) W (.slice pa pn pc) x.after) (hz : z = ⟨x.name.toArray⟩) (hk : K = x.k) (hzo : zo = ⟨x.over.toArray⟩) (hwd : wd = x.width) (hqt : qt = x.quota) (hf : x.Fits) (hit : itemS anyT (some bs) = (x, some (bs.drop P))) (hP : P ≤ n) (hP0 : 0 < P) :
    ReadM w n bs (.returned (.tuple #[.agg #[.string z, .int .u8 ((K : Nat) : Int), .slice pa pn pc, .string zo, .int .i64 wd, .int .i64 qt], .int .i64 ((P : Nat) : Int)])) ((((((W.setCell ⟨w.heap.size, 0, none⟩ (.string z)).setCell ⟨w.heap.size, 1, none⟩ (.int .u8 ((K : Nat) : Int))).setCell ⟨w.heap.size, 2, none⟩ (.slice pa pn pc)).setCell ⟨w.heap.size, 3, none⟩ (.string zo)).setCell ⟨w.heap.size, 4, none⟩ (.int .i64 wd)).setCell ⟨w.heap.size, 5, none⟩ (.int .i64 qt)) := by
  have hS2 : StrsO (w.heap.size + 2) ((((((W.setCell ⟨w.heap.size, 0, none⟩ (.string z)).setCell ⟨w.heap.size, 1, none⟩ (.int .u8 ((K : Nat) : Int))).setCell ⟨w.heap.size, 2, none⟩ (.slice pa pn pc)).setCell ⟨w.heap.size, 3, none⟩ (.string zo)).setCell ⟨w.heap.size, 4, none⟩ (.int .i64 wd)).setCell ⟨w.heap.size, 5, none⟩ (.int .i64 qt)) (.slice pa pn pc) x.after := hS.kept fun k hk => set6_other (by have := hS.new k hk; omega) _ _ _ _ _ _
  refine ⟨set6_below h.bb (Nat.le_refl _) _ _ _ _ _ _, .inl ⟨x, P, z, K, pa, pn, pc, zo, wd, qt, hit, hP, hP0, rfl, ?_⟩⟩
  obtain ⟨a, c, hv, h1, h2, h3⟩ := hS2.at
  simp only [Value.slice.injEq] at hv
  obtain ⟨rfl, rfl, rfl⟩ := hv
  refine ⟨pa, pc, ?_, hf, h1, h2, h3.kept (fun _ _ _ => rfl) (fun k hk _ => ⟨by have := hk.1.1; omega, hk.1.2⟩)⟩
  rw [hz, hk, hzo, hwd, hqt]
  rfl

/-- Behind the reading of one name: what append does. -/
theorem itr_next {w W : World} {i rc : Nat} {ra : Option Addr} {q : List (List UInt8)} {s : List UInt8} {row : Array Value} (hq : q.length = i) (h : ItR w row W) (hS : StrsO (w.heap.size + 2) W (.slice ra i rc) q) (hs : s.length ≤ 20) (hi : i ≤ 1000) (ty : TypeId) :
    ∃ ra' rc' W7, (Builtin.append_ #[60, 60] ty #[.slice ra i rc, .slice (some ⟨W.heap.size, 0, none⟩) 1 1]).run Tryz.prog (W.alloc (.cells #[.string ⟨s.toArray⟩] 9)) = .ok (.slice ra' (i + 1) rc') W7 ∧ StrsO (w.heap.size + 2) W7 (.slice ra' (i + 1) rc') (q ++ [s]) ∧ ItR w row W7 := by
  have hlt := (Array.getElem?_eq_some_iff.1 h.b3).1
  obtain ⟨W4, hW4⟩ : ∃ W4, W4 = W.alloc (.cells #[.string ⟨s.toArray⟩] 9) := ⟨_, rfl⟩
  have hb4 : Below W.heap.size W W4 := by rw [hW4]; exact (Below.refl _ _).alloc (Nat.le_refl _) _
  have hr4 : W4.heap[W.heap.size]? = some (.cells #[.string ⟨s.toArray⟩] 9 (0, 0)) := by rw [hW4]; exact heap_alloc_new _ _
  have h4 := hS.later hb4
  have hS4 : StrsAt (fun _ => True) W4 (some ⟨W.heap.size, 0, none⟩) [s] := fun j hj => by
    obtain rfl : j = 0 := by simp at hj; omega
    exact ⟨_, _, rfl, trivial, cell_of_row _ _ 0 _ _ _ hr4, by show s.length ≤ maxLen; unfold maxLen; omega⟩
  obtain ⟨r', W7, hrun, hv, hg7, hn⟩ := h4.append (by have := hb4.size; omega) hS4 (Nat.le_refl _) (fun e => by cases e) (by simp only [List.length_singleton]; omega) ty
  obtain ⟨ra', rc', rfl, _⟩ := hv.at
  rw [List.length_append, List.length_singleton, hq] at hv hrun
  rw [hW4] at hrun
  have hbw4 : Below w.heap.size w W4 := h.bb.trans (hb4.mono h.bb.size)
  refine ⟨ra', rc', W7, hrun, hv, h.kept (hbw4.grown hg7 hbw4.size (fun k hk => by have := h4.new k hk; omega)) fun k hk => ?_⟩
  rw [hg7.block k (by have := hb4.size; omega) (fun e => by have := h4.new k e.symm; omega)]
  exact hb4.block k (by omega)

set_option maxRecDepth 100000 in
set_option maxHeartbeats 4000000 in
theorem rRead_any (a : Option Addr) (n c : Nat) (bs : List UInt8) (w : World) (h : Bytes w (.slice a n c) bs) (hl : n ≤ 1048576) : Calls Tryz.prog 86 #[.slice a n c] w (ReadM w n bs) := by
  obtain ⟨hbl, hnc⟩ := bytes_len h
  obtain ⟨W1, hW1⟩ : ∃ W1, W1 = (w.alloc (.cells #[.string ⟨#[]⟩, .int .u8 0, .slice none 0 0, .string ⟨#[]⟩, .int .i64 0, .int .i64 0] 62)).alloc (.cells #[.string ⟨#[]⟩, .int .u8 0, .slice none 0 0, .string ⟨#[]⟩, .int .i64 0, .int .i64 0] 62) := ⟨_, rfl⟩
  have HI1 : Hid (ItR w #[.string ⟨#[]⟩, .int .u8 0, .slice none 0 0, .string ⟨#[]⟩, .int .i64 0, .int .i64 0] W1) := by
    have hb0 : Below w.heap.size w (w.alloc (.cells #[.string ⟨#[]⟩, .int .u8 0, .slice none 0 0, .string ⟨#[]⟩, .int .i64 0, .int .i64 0] 62)) := (Below.refl _ w).alloc (Nat.le_refl _) _
    have hr := heap_alloc_new (w.alloc (.cells #[.string ⟨#[]⟩, .int .u8 0, .slice none 0 0, .string ⟨#[]⟩, .int .i64 0, .int .i64 0] 62)) (.cells #[.string ⟨#[]⟩, .int .u8 0, .slice none 0 0, .string ⟨#[]⟩, .int .i64 0, .int .i64 0] 62)
    rw [World.size_alloc] at hr
    rw [hW1]
    refine ⟨hb0.alloc hb0.size _, ?_, hr⟩
    exact (((Below.refl _ _).alloc (Nat.le_refl _) _ : Below (w.alloc (.cells #[.string ⟨#[]⟩, .int .u8 0, .slice none 0 0, .string ⟨#[]⟩, .int .i64 0, .int .i64 0] 62)).heap.size (w.alloc (.cells #[.string ⟨#[]⟩, .int .u8 0, .slice none 0 0, .string ⟨#[]⟩, .int .i64 0, .int .i64 0] 62)) _).block _ (by rw [World.size_alloc]; omega)).trans (heap_alloc_new w _)
  have HBY : Hid (∀ X, Below w.heap.size w X → Bytes X (.slice a n c) bs) := fun X hX => h.kept fun k _ hk => hX.block k hk
  have HSL : Hid (∀ X, Below w.heap.size w X → ∀ p, p ≤ n → ∃ sa sc, Bytes X (.slice sa (n - p) sc) (bs.drop p) ∧ (∀ W : World, (Instr.slice 28 (.slice a n c) (some (.int .i64 (p : Nat))) none none).run Tryz.prog W = .ok (.slice sa (n - p) sc) W) ∧ (∀ W : World, (Instr.sliceAt 28 (.slice a n c) (some (.int .i64 (p : Nat))) none none).run Tryz.prog W = .ok (.slice sa (n - p) sc) W)) := fun X hX p hp => slice_from (h.kept fun k _ hk => hX.block k hk) hp
  have HBL := hide hbl
  have HL := hide hl
  have HW1 := hide hW1
  have HT1 := hide (wRefTakeText_any (.slice a n c) bs 20 W1 (unhide HBY _ (unhide HI1).bb) (by omega) (by unfold InR; omega))
  clear h hbl hnc hl hW1
  go_enter Tryz.func86, Tryz.ntmps86
  go_upto_region 2 with fail
  rw [← unhide HW1]
  clear HW1
  go_wp2_with fail
  refine (unhide HT1).mono ?_
  rintro e w2 ⟨ht, hw⟩
  rw [hw]
  clear hw w2
  obtain ⟨⟨c0, c1, c2, c3, c4, c5⟩, fz, ⟨m0, m1, m2, m3, m4, m5⟩, fm⟩ := (unhide HI1).cells
  rcases ht with ⟨s, k, hr, rfl⟩ | ⟨hNo, rfl⟩
  case inr =>
    have HNO : Hid ((itemS anyT (some bs)).2 = none) := itemS_no1 (by rw [textS_no fun s k h => absurd h (hNo s k)])
    obtain ⟨sa, sc, hB, q, q'⟩ := unhide HSL W1 (unhide HI1).bb 0 (by omega)
    have HTN := hide (wRefTakeNum_any (.slice sa (n - 0) sc) (bs.drop 0) W1 hB (by rw [List.length_drop]; have := unhide HBL; have := unhide HL; omega))
    rw [Nat.sub_zero] at q q' HTN
    replace q : ∀ W : World, (Instr.slice 28 (.slice a n c) (some (.int .i64 0)) none none).run Tryz.prog W = .ok (.slice sa n sc) W := fun W => q W
    replace q' : ∀ W : World, (Instr.sliceAt 28 (.slice a n c) (some (.int .i64 0)) none none).run Tryz.prog W = .ok (.slice sa n sc) W := fun W => q' W
    clear hNo hB
    go_wp2_with fail
    refine (unhide HTN).mono ?_
    rintro e w2 ⟨ht2, hw⟩
    rw [hw]
    clear hw w2
    have hex : ∃ (x : Int) (k : Int), e = .returned (.tuple #[.int .i64 x, .int .i64 k]) := by
      rcases ht2 with ⟨x, k, _, rfl⟩ | ⟨_, rfl⟩
      · exact ⟨_, _, rfl⟩
      · exact ⟨_, _, rfl⟩
    obtain ⟨x2, k2, rfl⟩ := hex
    clear ht2
    go_wp2_with fail
    refine bodyPost_ret (results_ctF rfl _ _ _ _ _ _ _ rfl (set6_heap (unhide HI1).b2 _ _ _ _ _ _) Tryz.underlying62 rfl (by kernel_rfl)) rfl ?_
    exact rd_fail (unhide HI1) (unhide HNO)
  have HNUM : Hid (∀ X, Below w.heap.size w X → ∀ p, p ≤ n → ∃ sa sn sc, (∀ W : World, (Instr.slice 28 (.slice a n c) (some (.int .i64 (p : Nat))) none none).run Tryz.prog W = .ok (.slice sa sn sc) W) ∧ (∀ W : World, (Instr.sliceAt 28 (.slice a n c) (some (.int .i64 (p : Nat))) none none).run Tryz.prog W = .ok (.slice sa sn sc) W) ∧ (Calls Tryz.prog 61 #[.slice sa sn sc] X fun e w' => RefNum (bs.drop p) e ∧ w' = X)) := fun X hX p hp => by
    obtain ⟨sa, sc, hB, q, q'⟩ := unhide HSL X hX p hp
    exact ⟨sa, n - p, sc, q, q', wRefTakeNum_any _ (bs.drop p) X hB (by rw [List.length_drop]; have := unhide HBL; have := unhide HL; omega)⟩
  have HTXT : Hid (∀ X, Below w.heap.size w X → ∀ p, p ≤ n → ∃ sa sn sc, (∀ W : World, (Instr.slice 28 (.slice a n c) (some (.int .i64 (p : Nat))) none none).run Tryz.prog W = .ok (.slice sa sn sc) W) ∧ (∀ W : World, (Instr.sliceAt 28 (.slice a n c) (some (.int .i64 (p : Nat))) none none).run Tryz.prog W = .ok (.slice sa sn sc) W) ∧ (Calls Tryz.prog 63 #[.slice sa sn sc, .int .i64 20] X fun e w' => RefText (bs.drop p) 20 e ∧ w' = X)) := fun X hX p hp => by
    obtain ⟨sa, sc, hB, q, q'⟩ := unhide HSL X hX p hp
    exact ⟨sa, n - p, sc, q, q', wRefTakeText_any _ (bs.drop p) 20 X hB (by rw [List.length_drop]; have := unhide HBL; have := unhide HL; omega) (by unfold InR; omega)⟩
  have HDL : Hid (∀ p, p ≤ n → (bs.drop p).length = n - p) := fun p hp => by rw [List.length_drop, unhide HBL]
  have hn6 : n ≤ 1048576 := unhide HL
  have HSA : Hid (textS anyT (some bs) = (s, some (bs.drop (k + s.length)))) := textS_ok hr rfl
  have hs20 : s.length ≤ 20 := by have := hr.most; omega
  have hP1n : k + s.length ≤ n := by have := hr.le; have := unhide HBL; omega
  have hk0 := hr.num.pos
  obtain ⟨P1, hP1⟩ : ∃ P1, P1 = k + s.length := ⟨_, rfl⟩
  rw [← hP1] at HSA hP1n ⊢
  have hP1p : 0 < P1 := by omega
  obtain ⟨z, hz⟩ : ∃ z : ByteArray, z = ⟨s.toArray⟩ := ⟨_, rfl⟩
  rw [← hz]
  have HZ : Hid (z = ⟨s.toArray⟩ ∧ s.length ≤ 20) := ⟨hz, hs20⟩
  obtain ⟨sa, sn, sc, q, q', hC⟩ := unhide HNUM W1 (unhide HI1).bb P1 hP1n
  have HC := hide hC
  clear hr hs20 hk0 hP1 hz hC
  go_wp2_with fail
  refine (unhide HC).mono ?_
  rintro e w2 ⟨ht, hw⟩
  rw [hw]
  clear hw w2 q q' HC
  rcases refNum_cases 1 ht with ⟨K, k2, rfl, hK1, hk2p, hk2t, hk2n, hsb⟩ | ⟨hno, x, k2, rfl, hor⟩
  case inr =>
    have HNO := hide (itemS_f2 (unhide HSA) hno)
    clear ht hno
    rcases hor with g0 | ⟨g0, g1⟩ | ⟨g0, g1, g2⟩
    all_goals (
      go_wp2_with fail
      refine bodyPost_ret (results_ctF rfl _ _ _ _ _ _ _ rfl (set6_heap (unhide HI1).b2 _ _ _ _ _ _) Tryz.underlying62 rfl (by kernel_rfl)) rfl ?_
      exact rd_fail (unhide HI1) (unhide HNO))
  rw [unhide HDL P1 hP1n] at hk2n
  rw [List.drop_drop] at hsb
  obtain ⟨P2, hP2⟩ : ∃ P2, P2 = P1 + k2 := ⟨_, rfl⟩
  rw [← hP2] at hsb
  have HSB := hide hsb
  have hP2n : P2 ≤ n := by omega
  have hP2i : ((P1 : Nat) : Int) + ((k2 : Nat) : Int) = ((P2 : Nat) : Int) := by omega
  have hP2p : 0 < P2 := by omega
  have gk : (((k2 : Nat) : Int) == 0) = false := by rw [beq_eq_false_iff_ne]; omega
  have g1 : ¬ ((K : Nat) : Int) < 0 := by omega
  have g2 : ¬ ((K : Nat) : Int) > 1 := by omega
  have hwK : IntKind.u8.wrap ((K : Nat) : Int) = ((K : Nat) : Int) := by rw [IntKind.wrap_u8]; omega
  have f0 := fz 0
  have f1 := fz 1
  have HI2 : Hid (ItR w #[.string z, .int .u8 ((K : Nat) : Int), .slice none 0 0, .string ⟨#[]⟩, .int .i64 0, .int .i64 0] ((W1.setCell ⟨w.heap.size + 1, 0, none⟩ (.string z)).setCell ⟨w.heap.size + 1, 1, none⟩ (.int .u8 ((K : Nat) : Int)))) := ((unhide HI1).set 0 _).set 1 _
  obtain ⟨W2, hW2⟩ : ∃ W2, W2 = (W1.setCell ⟨w.heap.size + 1, 0, none⟩ (.string z)).setCell ⟨w.heap.size + 1, 1, none⟩ (.int .u8 ((K : Nat) : Int)) := ⟨_, rfl⟩
  rw [← hW2] at HI2
  have HW2 := hide hW2
  obtain ⟨sa, sn, sc, q, q', hC⟩ := unhide HNUM W2 (unhide HI2).bb P2 hP2n
  have HC := hide hC
  have HK1 := hide hK1
  clear ht hk2p hk2t hk2n hsb hP2 hW2 hC fz hP1p
  go_upto_region 7 with fail
  rw [← unhide HW2]
  clear HW2 c0 c1 c2 c3 c4 c5 m0 m1 m2 m3 m4 m5 fm f0 f1 gk g1 g2 HI1
  obtain ⟨⟨c0, c1, c2, c3, c4, c5⟩, fz, ⟨m0, m1, m2, m3, m4, m5⟩, fm⟩ := (unhide HI2).cells
  go_wp2_with fail
  refine (unhide HC).mono ?_
  rintro e w2 ⟨ht, hw⟩
  rw [hw]
  clear hw w2 q q' HC
  rcases refNum_cases 20 ht with ⟨M, k3, rfl, hM, hk3p, hk3t, hk3n, hsc⟩ | ⟨hno, x, k3, rfl, hor⟩
  case inr =>
    have HNO := hide (itemS_f3 (unhide HSA) (unhide HSB) hno)
    clear ht hno
    rcases hor with g0 | ⟨g0, g1⟩ | ⟨g0, g1, g2⟩
    all_goals (
      go_wp2_with fail
      refine bodyPost_ret (results_ctF rfl _ _ _ _ _ _ _ rfl (set6_heap (unhide HI2).b2 _ _ _ _ _ _) Tryz.underlying62 rfl (by kernel_rfl)) rfl ?_
      exact rd_fail (unhide HI2) (unhide HNO))
  rw [unhide HDL P2 hP2n] at hk3n
  rw [List.drop_drop] at hsc
  obtain ⟨P3, hP3⟩ : ∃ P3, P3 = P2 + k3 := ⟨_, rfl⟩
  rw [← hP3] at hsc
  have HSC := hide hsc
  have hP3n : P3 ≤ n := by omega
  have hP3i : ((P2 : Nat) : Int) + ((k3 : Nat) : Int) = ((P3 : Nat) : Int) := by omega
  have gk : (((k3 : Nat) : Int) == 0) = false := by rw [beq_eq_false_iff_ne]; omega
  have g1 : ¬ ((M : Nat) : Int) < 0 := by omega
  have g2 : ¬ ((M : Nat) : Int) > 20 := by omega
  have hP3p : 0 < P3 := by omega
  clear ht hk3p hk3t hk3n hsc hP3
  go_wp2_with fail
  clear gk g1 g2 c0 c1 c2 c3 c4 c5 fz m0 m1 m2 m3 m4 m5 fm hP2i hP3i
  go_loopw [6, 11] (fun at' k W => ∃ (i P rc : Nat) (ra : Option Addr) (q : List (List UInt8)), i ≤ M ∧ k = .int .i64 ((i : Nat) : Int) ∧ at' = .int .i64 ((P : Nat) : Int) ∧ P ≤ n ∧ 0 < P ∧ listS (textS anyT) i (some (bs.drop P3)) = (q, some (bs.drop P)) ∧ ItR w #[.string z, .int .u8 ((K : Nat) : Int), .slice ra i rc, .string ⟨#[]⟩, .int .i64 0, .int .i64 0] W ∧ StrsO (w.heap.size + 2) W (.slice ra i rc) q) (fun _ k _ => M - (intOf k).toNat)
  case atStart => exact ⟨0, P3, 0, none, [], by omega, rfl, rfl, hP3n, hP3p, rfl, unhide HI2, StrsO.nil _ _⟩
  case round =>
    obtain ⟨i, P, rc, ra, q, hi, rfl, rfl, hPn, hPp, hls, hI, hS⟩ := hrel
    have HLS := hide hls
    have HI := hide hI
    have HS := hide hS
    have HQ : Hid (q.length = i) := by show _ = _; have := listS_len (textS anyT) i (some (bs.drop P3)); rw [hls] at this; exact this
    obtain ⟨⟨c0, c1, c2, c3, c4, c5⟩, fz, ⟨m0, m1, m2, m3, m4, m5⟩, fm⟩ := hI.cells
    clear hls hS
    by_cases hlt : i < M
    · have hji : ((i : Nat) : Int) < ((M : Nat) : Int) := by omega
      obtain ⟨sa, sn, sc, q1, q2, hC⟩ := unhide HTXT wr hI.bb P hPn
      have HC := hide hC
      have f2 := fz 2
      clear hI hC
      go_wp2_with fail
      refine (unhide HC).mono ?_
      rintro e w2 ⟨ht, hw⟩
      rw [hw]
      clear hw w2 q1 q2 HC
      rcases refText_cases ht with ⟨s', k', rfl, hs', hk'p, hk'n, hst⟩ | ⟨hno, rfl⟩
      · rw [unhide HDL P hPn] at hk'n
        rw [List.drop_drop] at hst
        obtain ⟨P', hP'⟩ : ∃ P', P' = P + k' := ⟨_, rfl⟩
        rw [← hP'] at hst
        have hP'n : P' ≤ n := by omega
        have hP'p : 0 < P' := by omega
        have hP'i : ((P : Nat) : Int) + ((k' : Nat) : Int) = ((P' : Nat) : Int) := by omega
        have HLS2 : Hid (listS (textS anyT) (i + 1) (some (bs.drop P3)) = (q ++ [s'], some (bs.drop P'))) := by
          show _ = _
          simp only [listS, unhide HLS, hst]
        obtain ⟨ra', rc', W7, hrun, hS7, hI7⟩ := itr_next (unhide HQ) (unhide HI) (unhide HS) hs' (by omega) 60
        generalize (⟨s'.toArray⟩ : ByteArray) = z' at *
        have HRUN := hide hrun
        have HS7 := hide hS7
        have HI7 := hide hI7
        have HI8 : Hid (ItR w #[.string z, .int .u8 ((K : Nat) : Int), .slice ra' (i + 1) rc', .string ⟨#[]⟩, .int .i64 0, .int .i64 0] (W7.setCell ⟨w.heap.size + 1, 2, none⟩ (.slice ra' (i + 1) rc'))) := (unhide HI7).set 2 _
        have HS8 := hide ((unhide HS7).set (p := ⟨w.heap.size + 1, 2, none⟩) (by show w.heap.size + 1 < _; omega) (.slice ra' (i + 1) rc'))
        clear ht hs' hk'p hk'n hst hP' hrun hS7 hI7
        have x2 := (unhide HI7).cells.1.2.2.1
        have y2 := (unhide HI7).cells.2.1 2
        clear m0 m1 m2 m3 m4 m5 fm fz
        go_wp2_with (at_builtin; refine Lib.wpList_append_run _ rfl _ _ 60 60 rfl _ _ rfl rfl _ _ (unhide HRUN) ?_)
        exact ⟨⟨i + 1, P', rc', ra', q ++ [s'], by omega, by go_num, rfl, hP'n, hP'p, unhide HLS2, unhide HI8, unhide HS8⟩, by simp [intOf]; omega⟩
      · have HNO : Hid ((itemS anyT (some bs)).2 = none) := itemS_f4 (unhide HSA) (unhide HSB) (unhide HSC) (by
          have h1 : (listS (textS anyT) (i + 1) (some (bs.drop P3))).2 = none := by simp only [listS, unhide HLS, hno]
          have h2 := listS_stays (textS_codec anyT) h1 (M - (i + 1))
          rwa [show i + 1 + (M - (i + 1)) = M by omega] at h2)
        clear ht hno
        go_wp2_with fail
        refine bodyPost_ret (results_ctF rfl _ _ _ _ _ _ _ rfl (set6_heap (unhide HI).b2 _ _ _ _ _ _) Tryz.underlying62 rfl (by kernel_rfl)) rfl ?_
        exact rd_fail (unhide HI) (unhide HNO)
    · have e : i = M := by omega
      have hji : ¬ ((i : Nat) : Int) < ((M : Nat) : Int) := by omega
      have HSD : Hid (listS (textS anyT) M (some (bs.drop P3)) = (q, some (bs.drop P))) := by show _ = _; rw [← e]; exact unhide HLS
      obtain ⟨sa, sn, sc, q1, q2, hC⟩ := unhide HNUM wr hI.bb P hPn
      have HC := hide hC
      clear hI hC e HLS hlt
      go_wp2_with fail
      refine (unhide HC).mono ?_
      rintro e w2 ⟨ht, hw⟩
      rw [hw]
      clear hw w2 q1 q2 HC
      rcases refNum_cases 400 ht with ⟨Q, k5, rfl, hQ, hk5p, hk5t, hk5n, hse⟩ | ⟨hno, x, k5, rfl, hor⟩
      case inr =>
        have HNO := hide (itemS_f5 (unhide HSA) (unhide HSB) (unhide HSC) (unhide HSD) hno)
        clear ht hno
        rcases hor with g0 | ⟨g0, g1⟩ | ⟨g0, g1, g2⟩
        all_goals (
          go_wp2_with fail
          refine bodyPost_ret (results_ctF rfl _ _ _ _ _ _ _ rfl (set6_heap (unhide HI).b2 _ _ _ _ _ _) Tryz.underlying62 rfl (by kernel_rfl)) rfl ?_
          exact rd_fail (unhide HI) (unhide HNO))
      rw [unhide HDL P hPn] at hk5n
      rw [List.drop_drop] at hse
      obtain ⟨P5, hP5⟩ : ∃ P5, P5 = P + k5 := ⟨_, rfl⟩
      rw [← hP5] at hse
      have HFM := hide (itemS_form (unhide HSA) (unhide HSB) (unhide HSC) (unhide HSD) hse)
      have hP5n : P5 ≤ n := by omega
      have hP5p : 0 < P5 := by omega
      have hP5i : ((P : Nat) : Int) + ((k5 : Nat) : Int) = ((P5 : Nat) : Int) := by omega
      have gk : (((k5 : Nat) : Int) == 0) = false := by rw [beq_eq_false_iff_ne]; omega
      have g1 : ¬ ((Q : Nat) : Int) < 0 := by omega
      have g2 : ¬ ((Q : Nat) : Int) > 400 := by omega
      have f5 := fz 5
      have HI9 : Hid (ItR w #[.string z, .int .u8 ((K : Nat) : Int), .slice ra i rc, .string ⟨#[]⟩, .int .i64 0, .int .i64 ((Q : Nat) : Int)] (wr.setCell ⟨w.heap.size + 1, 5, none⟩ (.int .i64 ((Q : Nat) : Int)))) := (unhide HI).set 5 _
      have HS9 := hide ((unhide HS).set (p := ⟨w.heap.size + 1, 5, none⟩) (by show w.heap.size + 1 < _; omega) (.int .i64 ((Q : Nat) : Int)))
      obtain ⟨W9, hW9⟩ : ∃ W9, W9 = wr.setCell ⟨w.heap.size + 1, 5, none⟩ (.int .i64 ((Q : Nat) : Int)) := ⟨_, rfl⟩
      rw [← hW9] at HI9 HS9
      have HW9 := hide hW9
      have HQ4 := hide hQ
      clear ht hk5p hk5t hk5n hse hP5 hW9 hQ
      go_upto_region 24 with fail
      rw [← unhide HW9]
      clear HW9 c0 c1 c2 c3 c4 c5 fz m0 m1 m2 m3 m4 m5 fm f5 gk g1 g2 HI HS
      obtain ⟨⟨c0, c1, c2, c3, c4, c5⟩, fz, ⟨m0, m1, m2, m3, m4, m5⟩, fm⟩ := (unhide HI9).cells
      by_cases k0 : K = 0
      · have g0 : (((K : Nat) : Int) == 0) = true := by rw [beq_iff_eq]; omega
        have HIT : Hid (itemS anyT (some bs) = (⟨s, K, q, [], 0, ((Q : Nat) : Int)⟩, some (bs.drop P5))) := by show _ = _; rw [unhide HFM, if_neg (by omega)]
        clear k0
        go_wp2_with fail
        refine bodyPost_ret (results_ctF rfl _ _ _ _ _ _ _ rfl (set6_heap (unhide HI9).b2 _ _ _ _ _ _) Tryz.underlying62 rfl (by kernel_rfl)) rfl ?_
        exact rd_ok (x := ⟨s, K, q, [], 0, ((Q : Nat) : Int)⟩) (unhide HI9) (unhide HS9) (unhide HZ).1 rfl rfl rfl rfl ⟨by have := (unhide HZ).2; unfold maxLen; show s.length ≤ _; omega, by have := unhide HK1; show K < 256; omega, Nat.zero_le _, by show InR 0; unfold InR; omega, by have := unhide HQ4; show InR ((Q : Nat) : Int); unfold InR; omega⟩ (unhide HIT) hP5n hP5p
      have g0 : (((K : Nat) : Int) == 0) = false := by rw [beq_eq_false_iff_ne]; omega
      have hK1' : K = 1 := by have := unhide HK1; omega
      have HFM1 : Hid (itemS anyT (some bs) = (⟨s, K, q, (textS anyT (some (bs.drop P5))).1, (((numS 40 (textS anyT (some (bs.drop P5))).2).1 : Nat) : Int), ((Q : Nat) : Int)⟩, (numS 40 (textS anyT (some (bs.drop P5))).2).2)) := by show _ = _; rw [unhide HFM, if_pos hK1']
      obtain ⟨sa, sn, sc, q1, q2, hC⟩ := unhide HTXT W9 (unhide HI9).bb P5 hP5n
      have HC := hide hC
      clear hC k0 hK1' HFM
      go_wp2_with fail
      refine (unhide HC).mono ?_
      rintro e w2 ⟨ht, hw⟩
      rw [hw]
      clear hw w2 q1 q2 HC
      rcases refText_cases ht with ⟨so, k6, rfl, hso, hk6p, hk6n, hsf⟩ | ⟨hno, rfl⟩
      case inr =>
        have HNO : Hid ((itemS anyT (some bs)).2 = none) := by show _ = _; rw [unhide HFM1]; simp only [hno, numS_none]
        clear ht hno
        go_wp2_with fail
        refine bodyPost_ret (results_ctF rfl _ _ _ _ _ _ _ rfl (set6_heap (unhide HI9).b2 _ _ _ _ _ _) Tryz.underlying62 rfl (by kernel_rfl)) rfl ?_
        exact rd_fail (unhide HI9) (unhide HNO)
      rw [unhide HDL P5 hP5n] at hk6n
      rw [List.drop_drop] at hsf
      obtain ⟨P6, hP6⟩ : ∃ P6, P6 = P5 + k6 := ⟨_, rfl⟩
      rw [← hP6] at hsf
      have HFM2 : Hid (itemS anyT (some bs) = (⟨s, K, q, so, (((numS 40 (some (bs.drop P6))).1 : Nat) : Int), ((Q : Nat) : Int)⟩, (numS 40 (some (bs.drop P6))).2)) := by show _ = _; rw [unhide HFM1, hsf]
      have hP6n : P6 ≤ n := by omega
      have hP6i : ((P5 : Nat) : Int) + ((k6 : Nat) : Int) = ((P6 : Nat) : Int) := by omega
      obtain ⟨zo, hzo⟩ : ∃ zo : ByteArray, zo = ⟨so.toArray⟩ := ⟨_, rfl⟩
      rw [← hzo]
      have HZO : Hid (zo = ⟨so.toArray⟩ ∧ so.length ≤ 20) := ⟨hzo, hso⟩
      obtain ⟨sa, sn, sc, q1, q2, hC⟩ := unhide HNUM W9 (unhide HI9).bb P6 hP6n
      have HC := hide hC
      clear ht hso hk6p hk6n hsf hP6 hzo hC HFM1
      go_wp2_with fail
      refine (unhide HC).mono ?_
      rintro e w2 ⟨ht, hw⟩
      rw [hw]
      clear hw w2 q1 q2 HC
      rcases refNum_cases 40 ht with ⟨D, k7, rfl, hD, hk7p, hk7t, hk7n, hsg⟩ | ⟨hno, x, k7, rfl, hor⟩
      case inr =>
        have HNO : Hid ((itemS anyT (some bs)).2 = none) := by show _ = _; rw [unhide HFM2]; exact hno
        clear ht hno
        rcases hor with g0 | ⟨g0, g1⟩ | ⟨g0, g1, g2⟩
        all_goals (
          go_wp2_with fail
          refine bodyPost_ret (results_ctF rfl _ _ _ _ _ _ _ rfl (set6_heap (unhide HI9).b2 _ _ _ _ _ _) Tryz.underlying62 rfl (by kernel_rfl)) rfl ?_
          exact rd_fail (unhide HI9) (unhide HNO))
      rw [unhide HDL P6 hP6n] at hk7n
      rw [List.drop_drop] at hsg
      obtain ⟨P7, hP7⟩ : ∃ P7, P7 = P6 + k7 := ⟨_, rfl⟩
      rw [← hP7] at hsg
      have HIT : Hid (itemS anyT (some bs) = (⟨s, K, q, so, ((D : Nat) : Int), ((Q : Nat) : Int)⟩, some (bs.drop P7))) := by show _ = _; rw [unhide HFM2, hsg]
      have hP7n : P7 ≤ n := by omega
      have hP7p : 0 < P7 := by omega
      have hP7i : ((P6 : Nat) : Int) + ((k7 : Nat) : Int) = ((P7 : Nat) : Int) := by omega
      have gk : (((k7 : Nat) : Int) == 0) = false := by rw [beq_eq_false_iff_ne]; omega
      have g1 : ¬ ((D : Nat) : Int) < 0 := by omega
      have g2 : ¬ ((D : Nat) : Int) > 40 := by omega
      have f3 := fz 3
      have f4 := fz 4
      have HI10 : Hid (ItR w #[.string z, .int .u8 ((K : Nat) : Int), .slice ra i rc, .string zo, .int .i64 ((D : Nat) : Int), .int .i64 ((Q : Nat) : Int)] ((W9.setCell ⟨w.heap.size + 1, 3, none⟩ (.string zo)).setCell ⟨w.heap.size + 1, 4, none⟩ (.int .i64 ((D : Nat) : Int)))) := ((unhide HI9).set 3 _).set 4 _
      have HS10 := hide (((unhide HS9).set (p := ⟨w.heap.size + 1, 3, none⟩) (by show w.heap.size + 1 < _; omega) (.string zo)).set (p := ⟨w.heap.size + 1, 4, none⟩) (by show w.heap.size + 1 < _; omega) (.int .i64 ((D : Nat) : Int)))
      obtain ⟨W10, hW10⟩ : ∃ W10, W10 = (W9.setCell ⟨w.heap.size + 1, 3, none⟩ (.string zo)).setCell ⟨w.heap.size + 1, 4, none⟩ (.int .i64 ((D : Nat) : Int)) := ⟨_, rfl⟩
      rw [← hW10] at HI10 HS10
      have HW10 := hide hW10
      have HD4 := hide hD
      clear ht hk7p hk7t hk7n hsg hP7 hW10 hD
      go_upto_region 35 with fail
      rw [← unhide HW10]
      clear HW10 c0 c1 c2 c3 c4 c5 fz m0 m1 m2 m3 m4 m5 fm f3 f4 gk g1 g2 HI9 HS9
      obtain ⟨⟨c0, c1, c2, c3, c4, c5⟩, fz, ⟨m0, m1, m2, m3, m4, m5⟩, fm⟩ := (unhide HI10).cells
      go_wp2_with fail
      refine bodyPost_ret (results_ctF rfl _ _ _ _ _ _ _ rfl (set6_heap (unhide HI10).b2 _ _ _ _ _ _) Tryz.underlying62 rfl (by kernel_rfl)) rfl ?_
      exact rd_ok (x := ⟨s, K, q, so, ((D : Nat) : Int), ((Q : Nat) : Int)⟩) (unhide HI10) (unhide HS10) (unhide HZ).1 rfl (unhide HZO).1 rfl rfl ⟨by have := (unhide HZ).2; unfold maxLen; show s.length ≤ _; omega, by have := unhide HK1; show K < 256; omega, by have := (unhide HZO).2; unfold maxLen; show so.length ≤ _; omega, by have := unhide HD4; show InR ((D : Nat) : Int); unfold InR; omega, by have := unhide HQ4; show InR ((Q : Nat) : Int); unfold InR; omega⟩ (unhide HIT) hP7n hP7p
end Go.Proofs.YtdlbpbglidhlfaaGreatDoor

namespace Go.Proofs.YtdlbpbglidhlfaaGreatDoor
open Go.RowKit

theorem FI.okP_mono {p q : List UInt8 → Bool} (hpq : ∀ s, p s = true → q s = true) {x : FI} (h : x.okP p = true) : x.okP q = true := by
  unfold FI.okP at h ⊢
  simp only [Bool.and_eq_true, decide_eq_true_eq] at h ⊢
  obtain ⟨⟨⟨⟨h1, h2⟩, h3⟩, h4⟩, h5⟩ := h
  refine ⟨⟨⟨⟨hpq _ h1, h2⟩, List.all_eq_true.2 fun s hs => hpq s (List.all_eq_true.1 h3 s hs)⟩, h4⟩, ?_⟩
  unfold FI.kindOk at h5 ⊢
  simp only [Bool.or_eq_true, Bool.and_eq_true, decide_eq_true_eq] at h5 ⊢
  rcases h5 with h5 | ⟨⟨⟨a, b⟩, c⟩, d⟩
  · exact .inl h5
  · exact .inr ⟨⟨⟨a, hpq _ b⟩, c⟩, d⟩
theorem FReads.any {bs : List UInt8} {l : List FI} {j : Nat} (h : FReads bs l j) : fragS anyT (some bs) = (l, some (bs.drop j)) := by
  obtain ⟨h1, h2⟩ := (rightF_iff l).1 h.right
  conv => { lhs; rw [h.eq] }
  exact (fragS_codec anyT).full l _ ⟨h1, fun x hx => FI.okP_mono (fun s hs => by
    rw [txP_name] at hs
    unfold txP anyT
    rw [decide_eq_true (nameB_len hs)]; rfl) (h2 x hx)⟩
theorem listS_take {α : Type} (f : Option (List UInt8) → α × Option (List UInt8)) (m : Nat) (st : Option (List UInt8)) : ∀ d, (listS f (m + d) st).1.take m = (listS f m st).1
  | 0 => by
    have := listS_len f m st
    rw [Nat.add_zero, List.take_of_length_le (by omega)]
  | d + 1 => by
    have h1 := listS_take f m st d
    have h2 := listS_len f (m + d) st
    show ((listS f (m + d) st).1 ++ [_]).take m = _
    rw [List.take_append_of_le_length (by omega)]
    exact h1
theorem noFrag_count {bs : List UInt8} (h : (numS 40 (some bs)).2 = none) : NoFrag bs := fun l j hr => by
  have h1 := hr.any
  unfold fragS at h1
  dsimp only at h1
  rw [h, show (listS (itemS anyT) (numS 40 (some bs)).1 none) = ((listS (itemS anyT) (numS 40 (some bs)).1 none).1, (listS (itemS anyT) (numS 40 (some bs)).1 none).2) from rfl, (itemS_codec anyT).listNone] at h1
  cases h1
theorem noFrag_read {bs r : List UInt8} {M i : Nat} (hn : numS 40 (some bs) = (M, some r)) (hi : i ≤ M) (h : (listS (itemS anyT) i (some r)).2 = none) : NoFrag bs := fun l j hr => by
  have h1 := hr.any
  unfold fragS at h1
  rw [hn] at h1
  dsimp only at h1
  have h2 := listS_stays (itemS_codec anyT) h (M - i)
  rw [show i + (M - i) = M by omega, h1] at h2
  cases h2
theorem noFrag_item {bs r : List UInt8} {M i : Nat} {x : FI} (hn : numS 40 (some bs) = (M, some r)) (hi : i ≤ M) (hx : x ∈ (listS (itemS anyT) i (some r)).1) (hr0 : x.right = false) : NoFrag bs := fun l j hr => by
  have h1 := hr.any
  unfold fragS at h1
  rw [hn] at h1
  dsimp only at h1
  have h2 := listS_take (itemS anyT) i (some r) (M - i)
  rw [show i + (M - i) = M by omega, h1] at h2
  dsimp only at h2
  rw [← h2] at hx
  have h3 := hr.right
  unfold rightF at h3
  simp only [Bool.and_eq_true] at h3
  have h4 := List.all_eq_true.1 h3.2 x (List.mem_of_mem_take hx)
  rw [hr0] at h4
  cases h4
theorem freads_all {bs : List UInt8} {M P1 P : Nat} {q : List FI} (hn : numS 40 (some bs) = (M, some (bs.drop P1))) (hl : listS (itemS anyT) M (some (bs.drop P1)) = (q, some (bs.drop P))) (hr : ∀ x ∈ q, x.right = true) (hP : P ≤ bs.length) : FReads bs q P := by
  obtain ⟨c1, c2⟩ := (numS_codec (most := 40) (by omega)).sound _ _ _ hn
  obtain ⟨d1, _, d3⟩ := (itemS_codec anyT).listSound _ _ _ _ hl
  have e : bs = bytesF q ++ bs.drop P := by
    unfold bytesF
    rw [d1, List.append_assoc, ← d3]
    exact c2
  have hf := FReads.of (l := q) (by unfold rightF; rw [decide_eq_true (by omega), List.all_eq_true.2 hr]; rfl) e
  have h1 := congrArg List.length e
  rw [List.length_append, List.length_drop] at h1
  have h2 : (bytesF q).length = P := by omega
  rw [h2] at hf
  exact hf

/-- Behind the reading of one item: what append does. -/
theorem itm_next {w W W3 : World} {q1 rc : Nat} {ra : Option Addr} {q : List FI} {x : FI} {z zo : ByteArray} {K pn pc : Nat} {pa : Option Addr} {wd qt : Int} (hq : q.length = q1) (h : ItemsO w.heap.size (BNew w.heap.size) W (.slice ra q1 rc) q) (hu : Below w.heap.size w W) (hu3 : Below W.heap.size W W3)
    (hx : x.At (fun k => W.heap.size ≤ k ∧ NFr W3 k) W3 (.agg #[.string z, .int .u8 ((K : Nat) : Int), .slice pa pn pc, .string zo, .int .i64 wd, .int .i64 qt])) (hl : q1 ≤ 1000000) (ty : TypeId) :
    ∃ ra' rc' W7, (Builtin.append_ #[25, 25] ty #[.slice ra q1 rc, .slice (some ⟨W3.heap.size, 0, none⟩) 1 1]).run Tryz.prog (W3.alloc (.cells #[.string z, .int .u8 ((K : Nat) : Int), .slice pa pn pc, .string zo, .int .i64 wd, .int .i64 qt] 62)) = .ok (.slice ra' (q1 + 1) rc') W7 ∧
      ItemsO w.heap.size (BNew w.heap.size) W7 (.slice ra' (q1 + 1) rc') (q ++ [x]) ∧ Below w.heap.size w W7 := by
  obtain ⟨W4, hW4⟩ : ∃ W4, W4 = W3.alloc (.cells #[.string z, .int .u8 ((K : Nat) : Int), .slice pa pn pc, .string zo, .int .i64 wd, .int .i64 qt] 62) := ⟨_, rfl⟩
  have hb4 : Below W3.heap.size W3 W4 := by rw [hW4]; exact (Below.refl _ _).alloc (Nat.le_refl _) _
  have hr4 : W4.heap[W3.heap.size]? = some (.cells #[.string z, .int .u8 ((K : Nat) : Int), .slice pa pn pc, .string zo, .int .i64 wd, .int .i64 qt] 62 (0, 0)) := by rw [hW4]; exact heap_alloc_new _ _
  have hu34 : Below W.heap.size W W4 := hu3.trans (hb4.mono hu3.size)
  have hu04 : Below w.heap.size w W4 := hu.trans (hu34.mono hu.size)
  have h4 := h.later hu34 (fun k hk hlt => ⟨hk.1, hk.2.keep (hu34.block k hlt)⟩)
  obtain ⟨i0, i1, i2, i3, i4, i5⟩ := cells6 hr4
  have hp := hx.parts
  have hS : ItemsAt (fun k => BNew w.heap.size W4 k ∧ (Value.slice ra q1 rc).ownBlock ≠ some k ∨ k = W3.heap.size) W4 (some ⟨W3.heap.size, 0, none⟩) [x] := fun j hj => by
    obtain rfl : j = 0 := by simp at hj; omega
    show FI.Elem _ W4 x _ 0
    obtain ⟨rfl, rfl, rfl, rfl, rfl, rfl, q1, q2, q3, q4⟩ := hp
    exact ⟨_, 0, pa, pc, rfl, .inr rfl, ⟨i0, i1, i2, i3, i4, i5⟩, q1, q2, q3, q4.kept (fun k _ hk => hb4.block k hk) (fun k hk hlt => .inl ⟨⟨Nat.le_trans hu.size hk.1, hk.2.keep (hb4.block k hlt)⟩, fun e => by have := h.lt e; have := hk.1; omega⟩)⟩
  have hS2 : ItemsAt (fun k => BNew w.heap.size W4 k ∧ (Value.slice ra q1 rc).ownBlock ≠ some k) W4 (some ⟨W3.heap.size, 0, none⟩) [x] := hS.kept (fun _ _ _ => rfl) (fun k hk _ => by
    rcases hk with hk | rfl
    · exact hk
    · exact ⟨⟨Nat.le_trans hu.size hu3.size, fun i => frozen_of_row _ _ _ _ _ hr4⟩, fun e => by have := h.lt e; have := hu3.size; omega⟩)
  obtain ⟨r', W7, hrun, hv, hg7, hn⟩ := h4.append hu04.size hS2 (fun W' hW' k hk hne hlt => ⟨hk.1, hk.2.keep (hW'.block k hlt (fun e => hne e.symm))⟩) (Nat.le_refl _) (fun e => by cases e) (by simp only [List.length_singleton]; omega) ty
  obtain ⟨ra', rc', rfl, _⟩ := hv.form
  rw [List.length_append, List.length_singleton, hq] at hv hrun
  rw [hW4] at hrun
  exact ⟨ra', rc', W7, hrun, hv, hu04.grown hg7 hu04.size (fun k hk => h4.new k hk)⟩

/-- What the document's Take tells, in memory. -/
def TakeRM (w : World) (n : Nat) (bs : List UInt8) (e : Ending) (W : World) : Prop :=
  ∃ (l : List FI) (a : Option Addr) (ln c j : Nat), e = .returned (.tuple #[.slice a ln c, .int .i64 ((j : Nat) : Int)]) ∧ FragAt (fun k => w.heap.size ≤ k) W l (.slice a ln c) ∧ Below w.heap.size w W ∧
    ((0 < j ∧ j ≤ n ∧ FReads bs l j) ∨ (j = 0 ∧ NoFrag bs ∧ l = [] ∧ ln = 0))

set_option maxRecDepth 100000 in
set_option maxHeartbeats 4000000 in
theorem rTake_any (a : Option Addr) (n c : Nat) (bs : List UInt8) (w : World) (h : Bytes w (.slice a n c) bs) (hl : n ≤ 1048576) : Calls Tryz.prog 62 #[.slice a n c] w (TakeRM w n bs) := by
  obtain ⟨hbl, hnc⟩ := bytes_len h
  have HT1 := hide (wRefTakeNum_any (.slice a n c) bs w h (by omega))
  have HSL : Hid (∀ X, Below w.heap.size w X → ∀ p, p ≤ n → ∃ sa sn sc, (∀ W : World, (Instr.slice 28 (.slice a n c) (some (.int .i64 (p : Nat))) none none).run Tryz.prog W = .ok (.slice sa sn sc) W) ∧ (∀ W : World, (Instr.sliceAt 28 (.slice a n c) (some (.int .i64 (p : Nat))) none none).run Tryz.prog W = .ok (.slice sa sn sc) W) ∧ Calls Tryz.prog 86 #[.slice sa sn sc] X (ReadM X (n - p) (bs.drop p))) := fun X hX p hp => by
    obtain ⟨sa, sc, hB, q, q'⟩ := slice_from (h.kept fun k _ hk => hX.block k hk) hp
    exact ⟨sa, n - p, sc, q, q', rRead_any sa (n - p) sc (bs.drop p) X hB (by omega)⟩
  have HBL := hide hbl
  have hn6 := hl
  have HB0 := hide (Below.refl w.heap.size w)
  clear h hbl hnc hl
  go_enter Tryz.func62, Tryz.ntmps62
  go_wp2_with fail
  refine (unhide HT1).mono ?_
  rintro e w2 ⟨ht, hw⟩
  rw [hw]
  clear hw w2
  rcases refNum_cases 40 ht with ⟨M, P1, rfl, hM, hPp, hPt, hPn, hsn⟩ | ⟨hno, x, k2, rfl, hor⟩
  case inr =>
    have HNO := hide (noFrag_count hno)
    clear ht hno
    rcases hor with g0 | ⟨g0, g1⟩ | ⟨g0, g1, g2⟩
    all_goals (
      go_wp2_with fail
      go_ret2
      exact ⟨[], none, 0, 0, 0, rfl, FragAt.nil _ _, unhide HB0, .inr ⟨rfl, unhide HNO, rfl, rfl⟩⟩)
  have HSN := hide hsn
  have hP1n : P1 ≤ n := by have := unhide HBL; omega
  have gk : (((P1 : Nat) : Int) == 0) = false := by rw [beq_eq_false_iff_ne]; omega
  have g1 : ¬ ((M : Nat) : Int) < 0 := by omega
  have g2 : ¬ ((M : Nat) : Int) > 40 := by omega
  have hP1p := hPp
  clear ht hPt hPn hsn hPp
  go_wp2_with fail
  clear gk g1 g2
  go_loopw [5, 6, 7] (fun at' out k W => ∃ (i P rc : Nat) (ra : Option Addr) (q : List FI), i ≤ M ∧ k = .int .i64 ((i : Nat) : Int) ∧ at' = .int .i64 ((P : Nat) : Int) ∧ out = .slice ra i rc ∧ P ≤ n ∧ 0 < P ∧ listS (itemS anyT) i (some (bs.drop P1)) = (q, some (bs.drop P)) ∧ (∀ x ∈ q, x.right = true) ∧ ItemsO w.heap.size (BNew w.heap.size) W (.slice ra i rc) q ∧ Below w.heap.size w W) (fun _ _ k _ => M - (intOf k).toNat)
  case atStart => exact ⟨0, P1, 0, none, [], by omega, rfl, rfl, rfl, hP1n, hP1p, rfl, fun x hx => (by cases hx), ItemsO.nil _ _ _, unhide HB0⟩
  case round =>
    obtain ⟨i, P, rc, ra, q, hi, rfl, rfl, rfl, hPn, hPp, hls, hrt, hI, hb⟩ := hrel
    have HLS := hide hls
    have HRT := hide hrt
    have HI := hide hI
    have HB := hide hb
    have HQ : Hid (q.length = i) := by show _ = _; have := listS_len (itemS anyT) i (some (bs.drop P1)); rw [hls] at this; exact this
    clear hls hrt hI
    by_cases hlt : i < M
    · have hji : ((i : Nat) : Int) < ((M : Nat) : Int) := by omega
      obtain ⟨sa, sn, sc, q1, q2, hC⟩ := unhide HSL wr hb P hPn
      have HC := hide hC
      clear hC hb
      go_wp2_with fail
      refine (unhide HC).mono ?_
      rintro e w2 ⟨hb2, ⟨x, P', z, K, pa, pn, pc, zo, wd, qt, hit, hP'n, hP'p, rfl, hx⟩ | ⟨z, K, pa, pn, pc, zo, wd, qt, hno, rfl⟩⟩
      · rw [List.drop_drop] at hit
        obtain ⟨P2, hP2⟩ : ∃ P2, P2 = P + P' := ⟨_, rfl⟩
        rw [← hP2] at hit
        have hP2n : P2 ≤ n := by omega
        have hP2p : 0 < P2 := by omega
        have hP2i : ((P : Nat) : Int) + ((P' : Nat) : Int) = ((P2 : Nat) : Int) := by omega
        have HLS2 : Hid (listS (itemS anyT) (i + 1) (some (bs.drop P1)) = (q ++ [x], some (bs.drop P2))) := by
          show _ = _
          simp only [listS, unhide HLS, hit]
        have gk : (((P' : Nat) : Int) == 0) = false := by rw [beq_eq_false_iff_ne]; omega
        obtain ⟨W3, hW3⟩ : ∃ W3, W3 = w2.alloc (.cells #[.string z, .int .u8 ((K : Nat) : Int), .slice pa pn pc, .string zo, .int .i64 wd, .int .i64 qt] 62) := ⟨_, rfl⟩
        have hb3 : Below w2.heap.size w2 W3 := by rw [hW3]; exact (Below.refl _ _).alloc (Nat.le_refl _) _
        have hr3 : W3.heap[w2.heap.size]? = some (.cells #[.string z, .int .u8 ((K : Nat) : Int), .slice pa pn pc, .string zo, .int .i64 wd, .int .i64 qt] 62 (0, 0)) := by rw [hW3]; exact heap_alloc_new _ _
        have hb23 : Below wr.heap.size wr W3 := hb2.trans (hb3.mono hb2.size)
        have hx3 : x.At (fun k => wr.heap.size ≤ k ∧ NFr W3 k) W3 (.agg #[.string z, .int .u8 ((K : Nat) : Int), .slice pa pn pc, .string zo, .int .i64 wd, .int .i64 qt]) := hx.kept (fun k _ hk => hb3.block k hk) (fun k hk hlt => ⟨hk.1, hk.2.keep (hb3.block k hlt)⟩)
        have hsm : x.Small := by
          have hok := (itemS_codec anyT).sound _ _ _ hit
          have h1 := hok.1
          unfold FI.okP at h1
          simp only [Bool.and_eq_true, decide_eq_true_eq] at h1
          obtain ⟨⟨⟨⟨a1, a2⟩, a3⟩, _⟩, a5⟩ := h1
          have ht : ∀ s, txP anyT s = true → s.length ≤ 20 := fun s hs => by unfold txP at hs; simp only [Bool.and_eq_true, decide_eq_true_eq] at hs; exact hs.1
          refine ⟨by have := ht _ a1; omega, ?_, by omega, fun s hs => by have := ht _ (List.all_eq_true.1 a3 s hs); omega⟩
          unfold FI.kindOk at a5
          simp only [Bool.or_eq_true, Bool.and_eq_true, decide_eq_true_eq, List.isEmpty_iff] at a5
          rcases a5 with ⟨⟨_, h⟩, _⟩ | ⟨⟨⟨_, h⟩, _⟩, _⟩
          · rw [h]; exact Nat.zero_le _
          · have := ht _ h; omega
        have HCI := hide (rItem_any x _ _ W3 hx3 hsm)
        obtain ⟨c0, c1, c2, c3, c4, c5⟩ := cells6 hr3
        have HX3 := hide hx3
        have HB23 := hide hb23
        have HW3 := hide hW3
        have HR3 := hide hr3
        obtain ⟨xr, hxr⟩ : ∃ b, b = x.right := ⟨_, rfl⟩
        rw [← hxr] at HCI
        have HXR := hide hxr
        clear hb2 hit hP'n hP'p hx hP2 hW3 hb3 hr3 hb23 hx3 hsm hxr HC
        go_upto_region 9 with fail
        rw [← unhide HW3]
        clear HW3 q1 q2
        go_wp2_with fail
        refine (unhide HCI).mono ?_
        rintro e w4 ⟨rfl, hb4⟩
        have hr4 := (hb4.block _ (Array.getElem?_eq_some_iff.1 (unhide HR3)).1).trans (unhide HR3)
        have hx4 : x.At (fun k => wr.heap.size ≤ k ∧ NFr w4 k) w4 (.agg #[.string z, .int .u8 ((K : Nat) : Int), .slice pa pn pc, .string zo, .int .i64 wd, .int .i64 qt]) := (unhide HX3).kept (fun k _ hk => hb4.block k hk) (fun k hk hlt => ⟨hk.1, hk.2.keep (hb4.block k hlt)⟩)
        have HX4 := hide hx4
        have HB24 := hide ((unhide HB23).trans (hb4.mono (unhide HB23).size))
        have HBF := hide ((unhide HB).trans ((unhide HB24).mono (unhide HB).size))
        clear hb4 hx4 c0 c1 c2 c3 c4 c5 HX3
        obtain ⟨c0, c1, c2, c3, c4, c5⟩ := cells6 hr4
        clear hr4
        cases xr with
        | false =>
          have HNO : Hid (NoFrag bs) := noFrag_item (i := i + 1) (x := x) (unhide HSN) (by omega) (by rw [unhide HLS2]; simp) (unhide HXR).symm
          go_wp2_with fail
          go_ret2
          exact ⟨[], none, 0, 0, 0, rfl, FragAt.nil _ _, unhide HBF, .inr ⟨rfl, unhide HNO, rfl, rfl⟩⟩
        | true =>
          obtain ⟨ra', rc', W7, hrun, hS7, hB7⟩ := itm_next (unhide HQ) (unhide HI) (unhide HB) (unhide HB24) (unhide HX4) (by omega) 25
          have HRUN := hide hrun
          have HS7 := hide hS7
          have HB7 := hide hB7
          have HRT2 : Hid (∀ y ∈ q ++ [x], y.right = true) := fun y hy => by
            rcases List.mem_append.1 hy with hy | hy
            · exact unhide HRT y hy
            · rw [List.mem_singleton.1 hy]; exact (unhide HXR).symm
          clear hrun hS7 hB7
          go_wp2_with (at_builtin; refine Lib.wpList_append_run _ rfl _ _ 25 25 rfl _ _ rfl rfl _ _ (unhide HRUN) ?_)
          exact ⟨⟨i + 1, P2, rc', ra', q ++ [x], by omega, by go_num, rfl, rfl, hP2n, hP2p, unhide HLS2, unhide HRT2, unhide HS7, unhide HB7⟩, by simp [intOf]; omega⟩
      · have HNO : Hid (NoFrag bs) := noFrag_read (i := i + 1) (unhide HSN) (by omega) (by simp only [listS, unhide HLS, hno])
        have HBF := hide ((unhide HB).trans (hb2.mono (unhide HB).size))
        clear hb2 hno
        go_wp2_with fail
        go_ret2
        refine ⟨[], none, 0, 0, 0, rfl, FragAt.nil _ _, ?_, .inr ⟨rfl, unhide HNO, rfl, rfl⟩⟩
        exact (unhide HBF).alloc (unhide HBF).size _
    · have e : i = M := by omega
      have hji : ¬ ((i : Nat) : Int) < ((M : Nat) : Int) := by omega
      have HFR : Hid (FReads bs q P) := freads_all (unhide HSN) (by rw [← e]; exact unhide HLS) (unhide HRT) (by have := unhide HBL; omega)
      have HFA : Hid (FragAt (fun k => w.heap.size ≤ k) wr q (.slice ra i rc)) := (unhide HI).at (fun k hk => hk.1) (fun k hk _ => (unhide HI).new k hk)
      clear e hb hlt
      go_wp2_with fail
      go_ret2
      exact ⟨q, ra, _, rc, P, rfl, unhide HFA, unhide HB, .inl ⟨hPp, hPn, unhide HFR⟩⟩
end Go.Proofs.YtdlbpbglidhlfaaGreatDoor
