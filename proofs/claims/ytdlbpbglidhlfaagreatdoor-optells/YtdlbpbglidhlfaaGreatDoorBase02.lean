/- FragMem, OpMem, FragName, OpImplA, FragRow: our own definitions and contracts; no statement of the seat is proved here. -/
import Derived.Test.YtdlbpbglidhlfaaGreatDoorBase01
import Derived.Laws.BitsAllLaws
import Derived.OwnWalkIn
namespace Go.Proofs.YtdlbpbglidhlfaaGreatDoor
open Go.RowKit

/-- Texts in a row. -/
def StrsAt (B : Nat → Prop) (W : World) (a : Option Addr) (l : List (List UInt8)) : Prop :=
  ∀ j (h : j < l.length), ∃ b o, a = some ⟨b, o, none⟩ ∧ B b ∧ W.cell? ⟨b, o + j, none⟩ = some (.string ⟨(l[j]'h).toArray⟩) ∧ (l[j]'h).length ≤ maxLen
theorem StrsAt.nil (B : Nat → Prop) (W : World) (a : Option Addr) : StrsAt B W a [] := fun j h => absurd h (Nat.not_lt_zero j)
theorem StrsAt.kept {B B' : Nat → Prop} {W W' : World} {a : Option Addr} {l : List (List UInt8)} (h : StrsAt B W a l) (hk : ∀ k, B k → k < W.heap.size → W'.heap[k]? = W.heap[k]?) (hB : ∀ k, B k → k < W.heap.size → B' k) : StrsAt B' W' a l := fun j hj => by
  obtain ⟨b, o, ha, hb, hc, hl⟩ := h j hj
  have hlt : b < W.heap.size := World.block_lt_of_cell? W _ hc
  exact ⟨b, o, ha, hB b hb hlt, (World.cell?_of_block (a := ⟨b, o + j, none⟩) (hk b hb hlt)).trans hc, hl⟩
theorem StrsAt.unique {B B' : Nat → Prop} {W : World} {a : Option Addr} {l m : List (List UInt8)} (h : StrsAt B W a l) (h' : StrsAt B' W a m) (hl : l.length = m.length) : l = m := by
  refine List.ext_getElem hl fun j h1 h2 => ?_
  obtain ⟨b, o, ha, _, hc, _⟩ := h j h1
  obtain ⟨b', o', ha', _, hc', _⟩ := h' j h2
  rw [ha] at ha'
  simp only [Option.some.injEq, Addr.mk.injEq, and_true] at ha'
  obtain ⟨rfl, rfl⟩ := ha'
  rw [hc] at hc'
  simp only [Option.some.injEq, Value.string.injEq, ByteArray.mk.injEq] at hc'
  simpa using congrArg Array.toList hc'

namespace FI
/-- The six cells of an item. -/
def agg (x : FI) (a : Option Addr) (c : Nat) : Value := .agg #[.string ⟨x.name.toArray⟩, .int .u8 ((x.k : Nat) : Int), .slice a x.after.length c, .string ⟨x.over.toArray⟩, .int .i64 x.width, .int .i64 x.quota]
/-- Bounds of what is in memory. -/
structure Fits (x : FI) : Prop where
  nm : x.name.length ≤ maxLen
  kb : x.k < 256
  ov : x.over.length ≤ maxLen
  wd : InR x.width
  qt : InR x.quota
/-- The struct u reads as the item; the blocks of its names are of B. -/
def At (B : Nat → Prop) (W : World) (x : FI) (u : Value) : Prop := ∃ a c, u = x.agg a c ∧ x.Fits ∧ x.after.length ≤ c ∧ c ≤ maxLen ∧ StrsAt B W a x.after
theorem At.kept {B B' : Nat → Prop} {W W' : World} {x : FI} {u : Value} (h : x.At B W u) (hk : ∀ k, B k → k < W.heap.size → W'.heap[k]? = W.heap[k]?) (hB : ∀ k, B k → k < W.heap.size → B' k) : x.At B' W' u := by
  obtain ⟨a, c, h1, h2, h3, h4, h5⟩ := h
  exact ⟨a, c, h1, h2, h3, h4, h5.kept hk hB⟩
theorem At.later {B : Nat → Prop} {W W' : World} {x : FI} {u : Value} (h : x.At B W u) (hb : Below W.heap.size W W') : x.At B W' u := h.kept (fun k _ hk => hb.block k hk) (fun _ hB _ => hB)
theorem At.wider {B B' : Nat → Prop} {W : World} {x : FI} {u : Value} (h : x.At B W u) (hB : ∀ k, B k → B' k) : x.At B' W u := h.kept (fun _ _ _ => rfl) (fun k hk _ => hB k hk)
theorem At.unique {B B' : Nat → Prop} {W : World} {x y : FI} {u : Value} (h : x.At B W u) (h' : y.At B' W u) : x = y := by
  obtain ⟨a, c, rfl, f1, _, _, h5⟩ := h
  obtain ⟨a', c', hu, f2, _, _, h5'⟩ := h'
  unfold agg at hu
  simp only [Value.agg.injEq] at hu
  replace hu := congrArg Array.toList hu
  simp only [List.cons.injEq, and_true, Value.int.injEq, true_and, Value.string.injEq, Value.slice.injEq, ByteArray.mk.injEq] at hu
  obtain ⟨h1, h2, ⟨h3, h4, _⟩, h6, h7, h8⟩ := hu
  subst h3
  have hal := h5.unique h5' h4
  obtain ⟨nm, k, af, ov, wd, qt⟩ := x
  obtain ⟨nm', k', af', ov', wd', qt'⟩ := y
  simp only at h1 h2 h6 h7 h8 hal
  have e1 : nm = nm' := by simpa using congrArg Array.toList h1
  have e2 : k = k' := by omega
  have e3 : ov = ov' := by simpa using congrArg Array.toList h6
  subst e1 e2 e3 h7 h8 hal
  rfl

/-- An item's cells at an address. -/
structure Cells (W : World) (g o : Nat) (x : FI) (a : Option Addr) (c : Nat) : Prop where
  c0 : W.cell? ⟨g, o, none⟩ = some (.string ⟨x.name.toArray⟩)
  c1 : W.cell? ⟨g, o + 1, none⟩ = some (.int .u8 ((x.k : Nat) : Int))
  c2 : W.cell? ⟨g, o + 2, none⟩ = some (.slice a x.after.length c)
  c3 : W.cell? ⟨g, o + 3, none⟩ = some (.string ⟨x.over.toArray⟩)
  c4 : W.cell? ⟨g, o + 4, none⟩ = some (.int .i64 x.width)
  c5 : W.cell? ⟨g, o + 5, none⟩ = some (.int .i64 x.quota)
theorem Cells.kept {W W' : World} {g o : Nat} {x : FI} {a : Option Addr} {c : Nat} (h : x.Cells W g o a c) (hk : W'.heap[g]? = W.heap[g]?) : x.Cells W' g o a c := by
  have hc : ∀ {p : Nat} {v : Value}, W.cell? ⟨g, p, none⟩ = some v → W'.cell? ⟨g, p, none⟩ = some v := fun hx => (World.cell?_of_block (a := ⟨g, _, none⟩) hk).trans hx
  exact ⟨hc h.c0, hc h.c1, hc h.c2, hc h.c3, hc h.c4, hc h.c5⟩
theorem Cells.lt {W : World} {g o : Nat} {x : FI} {a : Option Addr} {c : Nat} (h : x.Cells W g o a c) : g < W.heap.size := World.block_lt_of_cell? W _ h.c0
/-- One item of a row, in memory. -/
def Elem (B : Nat → Prop) (W : World) (x : FI) (a : Option Addr) (i : Nat) : Prop :=
  ∃ b o pa pc, a = some ⟨b, o, none⟩ ∧ B b ∧ x.Cells W b (o + i * 6) pa pc ∧ x.Fits ∧ x.after.length ≤ pc ∧ pc ≤ maxLen ∧ StrsAt B W pa x.after
theorem Elem.kept {B B' : Nat → Prop} {W W' : World} {x : FI} {a : Option Addr} {i : Nat} (h : x.Elem B W a i) (hk : ∀ k, B k → k < W.heap.size → W'.heap[k]? = W.heap[k]?) (hB : ∀ k, B k → k < W.heap.size → B' k) : x.Elem B' W' a i := by
  obtain ⟨b, o, pa, pc, h1, h2, h3, h4, h5, h6, h7⟩ := h
  exact ⟨b, o, pa, pc, h1, hB b h2 h3.lt, h3.kept (hk b h2 h3.lt), h4, h5, h6, h7.kept hk hB⟩
theorem Elem.at {B : Nat → Prop} {W : World} {x : FI} {pa : Option Addr} {pc : Nat} (h4 : x.Fits) (h5 : x.after.length ≤ pc) (h6 : pc ≤ maxLen) (h7 : StrsAt B W pa x.after) : x.At B W (x.agg pa pc) := ⟨pa, pc, rfl, h4, h5, h6, h7⟩
end FI

/-- Items in a row. -/
def ItemsAt (B : Nat → Prop) (W : World) (a : Option Addr) (l : List FI) : Prop := ∀ j (h : j < l.length), (l[j]'h).Elem B W a j
/-- The slice u reads as the fragment; it and what it reaches lie in blocks of B. -/
def FragAt (B : Nat → Prop) (W : World) (l : List FI) (u : Value) : Prop := ∃ a c, u = .slice a l.length c ∧ l.length ≤ c ∧ c ≤ maxLen ∧ ItemsAt B W a l
theorem ItemsAt.kept {B B' : Nat → Prop} {W W' : World} {a : Option Addr} {l : List FI} (h : ItemsAt B W a l) (hk : ∀ k, B k → k < W.heap.size → W'.heap[k]? = W.heap[k]?) (hB : ∀ k, B k → k < W.heap.size → B' k) : ItemsAt B' W' a l := fun j hj => (h j hj).kept hk hB
theorem ItemsAt.later {B : Nat → Prop} {W W' : World} {a : Option Addr} {l : List FI} (h : ItemsAt B W a l) (hb : Below W.heap.size W W') : ItemsAt B W' a l := h.kept (fun k _ hk => hb.block k hk) (fun _ hB _ => hB)
theorem FragAt.kept {B B' : Nat → Prop} {W W' : World} {l : List FI} {u : Value} (h : FragAt B W l u) (hk : ∀ k, B k → k < W.heap.size → W'.heap[k]? = W.heap[k]?) (hB : ∀ k, B k → k < W.heap.size → B' k) : FragAt B' W' l u := by
  obtain ⟨a, c, h1, h2, h3, h4⟩ := h
  exact ⟨a, c, h1, h2, h3, h4.kept hk hB⟩
theorem FragAt.later {B : Nat → Prop} {W W' : World} {l : List FI} {u : Value} (h : FragAt B W l u) (hb : Below W.heap.size W W') : FragAt B W' l u := h.kept (fun k _ hk => hb.block k hk) (fun _ hB _ => hB)
theorem FragAt.wider {B B' : Nat → Prop} {W : World} {l : List FI} {u : Value} (h : FragAt B W l u) (hB : ∀ k, B k → B' k) : FragAt B' W l u := h.kept (fun _ _ _ => rfl) (fun k hk _ => hB k hk)
theorem FragAt.nil (B : Nat → Prop) (W : World) : FragAt B W [] (.slice none 0 0) := ⟨none, 0, rfl, Nat.le_refl _, Nat.zero_le _, fun j h => absurd h (Nat.not_lt_zero j)⟩
theorem FragAt.form {B : Nat → Prop} {W : World} {l : List FI} {u : Value} (h : FragAt B W l u) : ∃ a c, u = .slice a l.length c ∧ l.length ≤ c := by
  obtain ⟨a, c, h1, h2, _⟩ := h
  exact ⟨a, c, h1, h2⟩
theorem ItemsAt.unique {B B' : Nat → Prop} {W : World} {a : Option Addr} {l m : List FI} (h : ItemsAt B W a l) (h' : ItemsAt B' W a m) (hl : l.length = m.length) : l = m := by
  refine List.ext_getElem hl fun j h1 h2 => ?_
  obtain ⟨b, o, pa, pc, ha, _, hc, hf, hq, hm, hs⟩ := h j h1
  obtain ⟨b', o', pa', pc', ha', _, hc', hf', hq', hm', hs'⟩ := h' j h2
  rw [ha] at ha'
  simp only [Option.some.injEq, Addr.mk.injEq, and_true] at ha'
  obtain ⟨rfl, rfl⟩ := ha'
  have e0 := hc.c0.symm.trans hc'.c0
  have e1 := hc.c1.symm.trans hc'.c1
  have e2 := hc.c2.symm.trans hc'.c2
  have e3 := hc.c3.symm.trans hc'.c3
  have e4 := hc.c4.symm.trans hc'.c4
  have e5 := hc.c5.symm.trans hc'.c5
  simp only [Option.some.injEq] at e0 e1 e2 e3 e4 e5
  have eu : (l[j]'h1).agg pa pc = (m[j]'h2).agg pa' pc' := by
    unfold FI.agg
    rw [e0, e1, e2, e3, e4, e5]
  have h3 : (l[j]'h1).At B W ((l[j]'h1).agg pa pc) := ⟨pa, pc, rfl, hf, hq, hm, hs⟩
  have h4 : (m[j]'h2).At B' W ((l[j]'h1).agg pa pc) := ⟨pa', pc', eu, hf', hq', hm', hs'⟩
  exact h3.unique h4

/-- A block of six cells. -/
theorem cells6 {W : World} {g : Nat} {v0 v1 v2 v3 v4 v5 : Value} {t : TypeId} {fr : Nat × Nat} (h : W.heap[g]? = some (.cells #[v0, v1, v2, v3, v4, v5] t fr)) :
    W.cell? ⟨g, 0, none⟩ = some v0 ∧ W.cell? ⟨g, 1, none⟩ = some v1 ∧ W.cell? ⟨g, 2, none⟩ = some v2 ∧ W.cell? ⟨g, 3, none⟩ = some v3 ∧ W.cell? ⟨g, 4, none⟩ = some v4 ∧ W.cell? ⟨g, 5, none⟩ = some v5 :=
  ⟨cell_of_row _ _ 0 _ _ _ h, cell_of_row _ _ 1 _ _ _ h, cell_of_row _ _ 2 _ _ _ h, cell_of_row _ _ 3 _ _ _ h, cell_of_row _ _ 4 _ _ _ h, cell_of_row _ _ 5 _ _ _ h⟩

namespace FI
/-- What a struct that reads as an item is made of. -/
theorem At.form {B : Nat → Prop} {W : World} {x : FI} {u : Value} (h : x.At B W u) : ∃ (z : ByteArray) (K : Nat) (pa : Option Addr) (pn pc : Nat) (zo : ByteArray) (wd qt : Int), u = .agg #[.string z, .int .u8 ((K : Nat) : Int), .slice pa pn pc, .string zo, .int .i64 wd, .int .i64 qt] := by
  obtain ⟨a, c, h1, _⟩ := h
  exact ⟨_, _, _, _, _, _, _, _, h1⟩
/-- And what these are. -/
structure Parts (B : Nat → Prop) (W : World) (x : FI) (z : ByteArray) (K : Nat) (pa : Option Addr) (pn pc : Nat) (zo : ByteArray) (wd qt : Int) : Prop where
  nm : z = ⟨x.name.toArray⟩
  kd : K = x.k
  an : pn = x.after.length
  ov : zo = ⟨x.over.toArray⟩
  wd : wd = x.width
  qt : qt = x.quota
  fits : x.Fits
  le : pn ≤ pc
  cm : pc ≤ maxLen
  strs : StrsAt B W pa x.after
theorem At.parts {B : Nat → Prop} {W : World} {x : FI} {z : ByteArray} {K : Nat} {pa : Option Addr} {pn pc : Nat} {zo : ByteArray} {wd qt : Int} (h : x.At B W (.agg #[.string z, .int .u8 ((K : Nat) : Int), .slice pa pn pc, .string zo, .int .i64 wd, .int .i64 qt])) : Parts B W x z K pa pn pc zo wd qt := by
  obtain ⟨a, c, hu, f1, h3, h4, h5⟩ := h
  unfold agg at hu
  simp only [Value.agg.injEq] at hu
  replace hu := congrArg Array.toList hu
  simp only [List.cons.injEq, and_true, Value.int.injEq, true_and, Value.string.injEq, Value.slice.injEq] at hu
  obtain ⟨e1, e2, ⟨e3, e4, e5⟩, e6, e7, e8⟩ := hu
  subst e3 e5
  exact ⟨e1, by omega, e4, e6, e7, e8, f1, by omega, h4, h5⟩
theorem Parts.at {B : Nat → Prop} {W : World} {x : FI} {z : ByteArray} {K : Nat} {pa : Option Addr} {pn pc : Nat} {zo : ByteArray} {wd qt : Int} (h : Parts B W x z K pa pn pc zo wd qt) : x.At B W (.agg #[.string z, .int .u8 ((K : Nat) : Int), .slice pa pn pc, .string zo, .int .i64 wd, .int .i64 qt]) := by
  obtain ⟨rfl, rfl, rfl, rfl, rfl, rfl, h1, h2, h3, h4⟩ := h
  exact ⟨pa, pc, rfl, h1, h2, h3, h4⟩
/-- An item of a row, its cells under names. -/
theorem Elem.out {B : Nat → Prop} {W : World} {x : FI} {a : Option Addr} {i : Nat} (h : x.Elem B W a i) : ∃ (b o : Nat) (z : ByteArray) (K : Nat) (pa : Option Addr) (pn pc : Nat) (zo : ByteArray) (wd qt : Int), a = some ⟨b, o, none⟩ ∧ B b ∧ W.cell? ⟨b, o + i * 6, none⟩ = some (.string z) ∧ W.cell? ⟨b, o + i * 6 + 1, none⟩ = some (.int .u8 ((K : Nat) : Int)) ∧ W.cell? ⟨b, o + i * 6 + 2, none⟩ = some (.slice pa pn pc) ∧ W.cell? ⟨b, o + i * 6 + 3, none⟩ = some (.string zo) ∧ W.cell? ⟨b, o + i * 6 + 4, none⟩ = some (.int .i64 wd) ∧ W.cell? ⟨b, o + i * 6 + 5, none⟩ = some (.int .i64 qt) ∧
    x.At B W (.agg #[.string z, .int .u8 ((K : Nat) : Int), .slice pa pn pc, .string zo, .int .i64 wd, .int .i64 qt]) := by
  obtain ⟨b, o, pa, pc, h1, h2, h3, h4, h5, h6, h7⟩ := h
  exact ⟨b, o, _, _, pa, _, pc, _, _, _, h1, h2, h3.c0, h3.c1, h3.c2, h3.c3, h3.c4, h3.c5, ⟨pa, pc, rfl, h4, h5, h6, h7⟩⟩
end FI
theorem str_empty (s : List UInt8) : (⟨s.toArray⟩ : ByteArray).toList.isEmpty = s.isEmpty := by
  rw [ByteArray.toList_eq]
theorem str_eq (s t : List UInt8) : ((⟨s.toArray⟩ : ByteArray).toList == (⟨t.toArray⟩ : ByteArray).toList) = decide (s = t) := by
  rw [ByteArray.toList_eq, ByteArray.toList_eq, Bool.eq_iff_iff]; simp
end Go.Proofs.YtdlbpbglidhlfaaGreatDoor

namespace Go.Proofs.YtdlbpbglidhlfaaGreatDoor
open Go.RowKit

/-- The package's table: what each kind has. -/
def OTab (w : World) : Prop := ∀ i, i < 6 → w.cell? ⟨0, i, none⟩ = some (.int .u8 ((OD.has i : Nat) : Int))
theorem OTab.later {w w' : World} (h : OTab w) (hb : Below w.heap.size w w') : OTab w' := fun i hi => (hb.cell (World.block_lt_of_cell? _ _ (h i hi))).trans (h i hi)

namespace OD
/-- The nine cells of an operation. -/
def agg (o : OD) (K : Nat) (N : Int) (z : ByteArray) (a : Option Addr) (m c : Nat) (fa : Option Addr) (fn fc : Nat) : Value := .agg #[.int .u8 ((o.what : Nat) : Int), .string ⟨o.id.toArray⟩, .int .i64 o.token, .int .u8 ((K : Nat) : Int), .int .i64 N, .string z, .slice a m c, .slice fa fn fc, .int .i64 o.quota]
/-- Bounds of what is in memory. -/
structure Fits (o : OD) : Prop where
  wh : o.what < 256
  il : o.id.length ≤ maxLen
  tk : InR o.token
  qt : InR o.quota
/-- The struct u reads as the operation; what it reaches lies in blocks of B. -/
def At (B : Nat → Prop) (W : World) (o : OD) (u : Value) : Prop := ∃ K N z a m c fa fn fc, u = o.agg K N z a m c fa fn fc ∧ o.Fits ∧ o.value.At B W (.agg #[.int .u8 ((K : Nat) : Int), .int .i64 N, .string z, .slice a m c]) ∧ FragAt B W o.frag (.slice fa fn fc)
theorem At.kept {B B' : Nat → Prop} {W W' : World} {o : OD} {u : Value} (h : o.At B W u) (hk : ∀ k, B k → k < W.heap.size → W'.heap[k]? = W.heap[k]?) (hB : ∀ k, B k → k < W.heap.size → B' k) : o.At B' W' u := by
  obtain ⟨K, N, z, a, m, c, fa, fn, fc, h1, h2, h3, h4⟩ := h
  exact ⟨K, N, z, a, m, c, fa, fn, fc, h1, h2, h3.kept hk hB, h4.kept hk hB⟩
theorem At.later {B : Nat → Prop} {W W' : World} {o : OD} {u : Value} (h : o.At B W u) (hb : Below W.heap.size W W') : o.At B W' u := h.kept (fun k _ hk => hb.block k hk) (fun _ hB _ => hB)
theorem At.wider {B B' : Nat → Prop} {W : World} {o : OD} {u : Value} (h : o.At B W u) (hB : ∀ k, B k → B' k) : o.At B' W u := h.kept (fun _ _ _ => rfl) (fun k hk _ => hB k hk)

/-- What a struct that reads as an operation is made of. -/
def form9 (L : Nat) (s : ByteArray) (t : Int) (K : Nat) (N : Int) (z : ByteArray) (a : Option Addr) (m c : Nat) (fa : Option Addr) (fn fc : Nat) (q : Int) : Value := .agg #[.int .u8 ((L : Nat) : Int), .string s, .int .i64 t, .int .u8 ((K : Nat) : Int), .int .i64 N, .string z, .slice a m c, .slice fa fn fc, .int .i64 q]
/-- And what these are. -/
structure Parts (B : Nat → Prop) (W : World) (o : OD) (L : Nat) (s : ByteArray) (t : Int) (K : Nat) (N : Int) (z : ByteArray) (a : Option Addr) (m c : Nat) (fa : Option Addr) (fn fc : Nat) (q : Int) : Prop where
  wh : L = o.what
  id : s = ⟨o.id.toArray⟩
  tk : t = o.token
  qt : q = o.quota
  fits : o.Fits
  value : o.value.At B W (.agg #[.int .u8 ((K : Nat) : Int), .int .i64 N, .string z, .slice a m c])
  frag : FragAt B W o.frag (.slice fa fn fc)
theorem At.form {B : Nat → Prop} {W : World} {o : OD} {u : Value} (h : o.At B W u) : ∃ (L : Nat) (s : ByteArray) (t : Int) (K : Nat) (N : Int) (z : ByteArray) (a : Option Addr) (m c : Nat) (fa : Option Addr) (fn fc : Nat) (q : Int), u = form9 L s t K N z a m c fa fn fc q ∧ Parts B W o L s t K N z a m c fa fn fc q := by
  obtain ⟨K, N, z, a, m, c, fa, fn, fc, h1, h2, h3, h4⟩ := h
  exact ⟨_, _, _, K, N, z, a, m, c, fa, fn, fc, _, h1, rfl, rfl, rfl, rfl, h2, h3, h4⟩
theorem Parts.at {B : Nat → Prop} {W : World} {o : OD} {L : Nat} {s : ByteArray} {t : Int} {K : Nat} {N : Int} {z : ByteArray} {a : Option Addr} {m c : Nat} {fa : Option Addr} {fn fc : Nat} {q : Int} (h : Parts B W o L s t K N z a m c fa fn fc q) : o.At B W (form9 L s t K N z a m c fa fn fc q) := by
  obtain ⟨rfl, rfl, rfl, rfl, h1, h2, h3⟩ := h
  exact ⟨K, N, z, a, m, c, fa, fn, fc, rfl, h1, h2, h3⟩
theorem Parts.later {B : Nat → Prop} {W W' : World} {o : OD} {L : Nat} {s : ByteArray} {t : Int} {K : Nat} {N : Int} {z : ByteArray} {a : Option Addr} {m c : Nat} {fa : Option Addr} {fn fc : Nat} {q : Int} (h : Parts B W o L s t K N z a m c fa fn fc q) (hb : Below W.heap.size W W') : Parts B W' o L s t K N z a m c fa fn fc q := ⟨h.wh, h.id, h.tk, h.qt, h.fits, h.value.later hb, h.frag.later hb⟩
end OD
/-- A block of nine cells. -/
theorem cells9 {W : World} {g : Nat} {v0 v1 v2 v3 v4 v5 v6 v7 v8 : Value} {t : TypeId} {fr : Nat × Nat} (h : W.heap[g]? = some (.cells #[v0, v1, v2, v3, v4, v5, v6, v7, v8] t fr)) :
    W.cell? ⟨g, 0, none⟩ = some v0 ∧ W.cell? ⟨g, 1, none⟩ = some v1 ∧ W.cell? ⟨g, 2, none⟩ = some v2 ∧ W.cell? ⟨g, 3, none⟩ = some v3 ∧ W.cell? ⟨g, 4, none⟩ = some v4 ∧ W.cell? ⟨g, 5, none⟩ = some v5 ∧ W.cell? ⟨g, 6, none⟩ = some v6 ∧ W.cell? ⟨g, 7, none⟩ = some v7 ∧ W.cell? ⟨g, 8, none⟩ = some v8 :=
  ⟨cell_of_row _ _ 0 _ _ _ h, cell_of_row _ _ 1 _ _ _ h, cell_of_row _ _ 2 _ _ _ h, cell_of_row _ _ 3 _ _ _ h, cell_of_row _ _ 4 _ _ _ h, cell_of_row _ _ 5 _ _ _ h, cell_of_row _ _ 6 _ _ _ h, cell_of_row _ _ 7 _ _ _ h, cell_of_row _ _ 8 _ _ _ h⟩
end Go.Proofs.YtdlbpbglidhlfaaGreatDoor

namespace Go.Proofs.YtdlbpbglidhlfaaGreatDoor
open Go.RowKit

theorem chB_cases (y : UInt8) : (97 ≤ y.toNat ∧ y.toNat ≤ 122 ∧ chB y = true) ∨ (122 < y.toNat ∧ chB y = false) ∨ (y.toNat < 97 ∧ 48 ≤ y.toNat ∧ y.toNat ≤ 57 ∧ chB y = true) ∨ (y.toNat = 95 ∧ chB y = true) ∨ (y.toNat < 97 ∧ 57 < y.toNat ∧ y.toNat ≠ 95 ∧ chB y = false) ∨ (y.toNat < 48 ∧ chB y = false) := by
  have hc : chB y = true ↔ (97 ≤ y.toNat ∧ y.toNat ≤ 122) ∨ (48 ≤ y.toNat ∧ y.toNat ≤ 57) ∨ y.toNat = 95 := by
    unfold chB
    simp only [Bool.or_eq_true, Bool.and_eq_true, decide_eq_true_eq, or_assoc]
  have hf : chB y = false ↔ ¬ ((97 ≤ y.toNat ∧ y.toNat ≤ 122) ∨ (48 ≤ y.toNat ∧ y.toNat ≤ 57) ∨ y.toNat = 95) := by rw [← hc]; simp
  rw [hc, hf]
  omega

set_option maxHeartbeats 1000000 in
theorem inName_any (y : UInt8) (w : World) : Calls Tryz.prog 119 #[.int .u8 ((y.toNat : Nat) : Int)] w fun e w' => e = .returned (.bool (chB y)) ∧ w' = w := by
  have hy := y.toNat_lt
  rcases chB_cases y with ⟨h1, h2, h⟩ | ⟨h1, h⟩ | ⟨h1, h2, h3, h⟩ | ⟨h1, h⟩ | ⟨h1, h2, h3, h⟩ | ⟨h1, h⟩
  all_goals (
    rw [h]
    clear h
    generalize y.toNat = Y at *)
  · have p1 : ((Y : Nat) : Int) ≥ 97 := by omega
    have p2 : ((Y : Nat) : Int) ≤ 122 := by omega
    go_enter Tryz.func119, Tryz.ntmps119
    go_wp2_with fail
    go_ret
    exact ⟨rfl, rfl⟩
  · have p1 : ((Y : Nat) : Int) ≥ 97 := by omega
    have p2 : ¬ ((Y : Nat) : Int) ≤ 122 := by omega
    have p3 : ((Y : Nat) : Int) ≥ 48 := by omega
    have p4 : ¬ ((Y : Nat) : Int) ≤ 57 := by omega
    have p5 : (((Y : Nat) : Int) == 95) = false := by rw [beq_eq_false_iff_ne]; omega
    go_enter Tryz.func119, Tryz.ntmps119
    go_wp2_with fail
    go_ret
    exact ⟨rfl, rfl⟩
  · have p1 : ¬ ((Y : Nat) : Int) ≥ 97 := by omega
    have p3 : ((Y : Nat) : Int) ≥ 48 := by omega
    have p4 : ((Y : Nat) : Int) ≤ 57 := by omega
    go_enter Tryz.func119, Tryz.ntmps119
    go_wp2_with fail
    go_ret
    exact ⟨rfl, rfl⟩
  · have p1 : ¬ ((Y : Nat) : Int) ≥ 97 := by omega
    have p3 : ((Y : Nat) : Int) ≥ 48 := by omega
    have p4 : ¬ ((Y : Nat) : Int) ≤ 57 := by omega
    have p5 : (((Y : Nat) : Int) == 95) = true := by rw [beq_iff_eq]; omega
    clear h1
    go_enter Tryz.func119, Tryz.ntmps119
    go_wp2_with fail
    go_ret
    exact ⟨rfl, rfl⟩
  · have p1 : ¬ ((Y : Nat) : Int) ≥ 97 := by omega
    have p3 : ((Y : Nat) : Int) ≥ 48 := by omega
    have p4 : ¬ ((Y : Nat) : Int) ≤ 57 := by omega
    have p5 : (((Y : Nat) : Int) == 95) = false := by rw [beq_eq_false_iff_ne]; omega
    clear h3
    go_enter Tryz.func119, Tryz.ntmps119
    go_wp2_with fail
    go_ret
    exact ⟨rfl, rfl⟩
  · have p1 : ¬ ((Y : Nat) : Int) ≥ 97 := by omega
    have p3 : ¬ ((Y : Nat) : Int) ≥ 48 := by omega
    have p5 : (((Y : Nat) : Int) == 95) = false := by rw [beq_eq_false_iff_ne]; omega
    go_enter Tryz.func119, Tryz.ntmps119
    go_wp2_with fail
    go_ret
    exact ⟨rfl, rfl⟩

theorem str_size (s : List UInt8) : (⟨s.toArray⟩ : ByteArray).size = s.length := by simp [ByteArray.size]
theorem str_index (s : List UInt8) (j : Nat) (h : j < s.length) (W : World) : (Instr.index 9 (.string ⟨s.toArray⟩) (.int .i64 ((j : Nat) : Int))).run Tryz.prog W = .ok (.int .u8 (((s[j]'h).toNat : Nat) : Int)) W := by
  rw [run_index_string W 9 _ .i64 _ Tryz.underlying9, dif_pos ⟨by omega, by rw [str_size]; omega⟩]
  rfl
theorem all_take_succ {p : UInt8 → Bool} {s : List UInt8} {j : Nat} (h : j < s.length) : (s.take (j + 1)).all p = ((s.take j).all p && p (s[j]'h)) := by
  rw [List.take_succ_eq_append_getElem h, List.all_append]
  simp
theorem all_take_false {p : UInt8 → Bool} {s : List UInt8} {j : Nat} (h : j < s.length) (hp : p (s[j]'h) = false) : s.all p = false := by
  rw [Bool.eq_false_iff]
  intro e
  have := List.all_eq_true.1 e _ (List.getElem_mem h)
  rw [hp] at this
  cases this

set_option maxRecDepth 100000 in
set_option maxHeartbeats 2000000 in
theorem fName_any (s : List UInt8) (w : World) : Calls Tryz.prog 98 #[.string ⟨s.toArray⟩] w fun e w' => e = .returned (.bool (nameB s)) ∧ w' = w := by
  have hsz := str_size s
  have HIX := hide (str_index s)
  obtain ⟨n, hn⟩ : ∃ n, n = s.length := ⟨_, rfl⟩
  rw [← hn] at hsz
  have HN := hide hn
  obtain ⟨z, hz⟩ : ∃ z : ByteArray, z = ⟨s.toArray⟩ := ⟨_, rfl⟩
  rw [← hz] at hsz ⊢
  have HZ := hide hz
  by_cases h1 : n < 1
  · have p1 : ((n : Nat) : Int) < 1 := by omega
    have HV : Hid (nameB s = false) := by show _ = _; unfold nameB; rw [← hn, decide_eq_false (show ¬ 1 ≤ n by omega)]; rfl
    rw [unhide HV]
    clear hn hz h1
    go_enter Tryz.func98, Tryz.ntmps98
    go_wp2_with fail
    go_ret
    exact ⟨rfl, rfl⟩
  have p1 : ¬ ((n : Nat) : Int) < 1 := by omega
  by_cases h2 : n > 20
  · have p2 : ((n : Nat) : Int) > 20 := by omega
    have HV : Hid (nameB s = false) := by show _ = _; unfold nameB; rw [← hn, decide_eq_false (show ¬ n ≤ 20 by omega)]; simp
    rw [unhide HV]
    clear hn hz h1 h2
    go_enter Tryz.func98, Tryz.ntmps98
    go_wp2_with fail
    go_ret
    exact ⟨rfl, rfl⟩
  have p2 : ¬ ((n : Nat) : Int) > 20 := by omega
  have hn20 : n ≤ 20 := by omega
  have HV : Hid (nameB s = s.all chB) := by show _ = _; unfold nameB; rw [← hn, decide_eq_true (show 1 ≤ n by omega), decide_eq_true hn20]; rfl
  rw [unhide HV]
  clear hn hz h1 h2 HV
  go_enter Tryz.func98, Tryz.ntmps98
  go_wp2
  go_loopw [14] (fun k W => ∃ j : Nat, j ≤ n ∧ k = .int .i64 ((j : Nat) : Int) ∧ (s.take j).all chB = true ∧ W = w) (fun k _ => n - (intOf k).toNat)
  case atStart => exact ⟨0, by omega, rfl, rfl, rfl⟩
  case round =>
    obtain ⟨j, hj, rfl, ha, hw⟩ := hrel
    rw [hw]
    clear hw
    have HA := hide ha
    clear ha
    by_cases hlt : j < n
    · have hji : ((j : Nat) : Int) < ((n : Nat) : Int) := by omega
      have hjs : j < s.length := by have := unhide HN; omega
      have hix := unhide HIX j hjs
      rw [← unhide HZ] at hix
      have HTS := hide (all_take_succ (p := chB) hjs)
      have HTF := hide (all_take_false (p := chB) hjs)
      generalize s[j] = y at *
      go_wp2_with fail
      refine (inName_any y _).mono ?_
      rintro e w1 ⟨rfl, hw⟩
      rw [hw]
      clear hw w1
      rcases hc : chB y with _ | _
      · have HF := hide (unhide HTF hc)
        go_wp2_with fail
        go_ret
        exact ⟨ret_bool (unhide HF).symm, rfl⟩
      · have HT : Hid ((s.take (j + 1)).all chB = true) := by show _ = _; rw [unhide HTS, unhide HA, hc]; rfl
        go_wp2_with fail
        exact ⟨⟨j + 1, by omega, by go_num, unhide HT, trivial⟩, by simp [intOf]; omega⟩
    · have e : j = n := by omega
      have hji : ¬ ((j : Nat) : Int) < ((n : Nat) : Int) := by omega
      have HF : Hid (s.all chB = true) := by
        show _ = _
        have h := unhide HA
        rw [List.take_of_length_le (by have := unhide HN; omega)] at h
        exact h
      clear e
      go_wp2_with fail
      go_ret
      exact ⟨ret_bool (unhide HF).symm, rfl⟩

set_option maxRecDepth 100000 in
set_option maxHeartbeats 2000000 in
theorem rName_any (s : List UInt8) (hs : s.length ≤ 1000000) (w : World) : Calls Tryz.prog 65 #[.string ⟨s.toArray⟩] w fun e w' => e = .returned (.bool (nameB s)) ∧ w' = w := by
  have hsz := str_size s
  have HIX := hide (str_index s)
  obtain ⟨n, hn⟩ : ∃ n, n = s.length := ⟨_, rfl⟩
  rw [← hn] at hsz hs
  have HN := hide hn
  obtain ⟨z, hz⟩ : ∃ z : ByteArray, z = ⟨s.toArray⟩ := ⟨_, rfl⟩
  rw [← hz] at hsz ⊢
  have HZ := hide hz
  clear hn hz
  go_enter Tryz.func65, Tryz.ntmps65
  go_wp2
  go_loopw [3] (fun k W => ∃ j : Nat, j ≤ n ∧ k = .int .i64 ((j : Nat) : Int) ∧ (s.take j).all chB = true ∧ W = w) (fun k _ => n - (intOf k).toNat)
  case atStart => exact ⟨0, by omega, rfl, rfl, rfl⟩
  case round =>
    obtain ⟨j, hj, rfl, ha, hw⟩ := hrel
    rw [hw]
    clear hw
    have HA := hide ha
    clear ha
    by_cases hlt : j < n
    · have hji : ((j : Nat) : Int) < ((n : Nat) : Int) := by omega
      have hjs : j < s.length := by have := unhide HN; omega
      have hix := unhide HIX j hjs
      rw [← unhide HZ] at hix
      have HTS := hide (all_take_succ (p := chB) hjs)
      have HTF := hide (all_take_false (p := chB) hjs)
      generalize s[j] = y at *
      have hcc := chB_cases y
      have hyl := y.toNat_lt
      obtain ⟨q, hq⟩ : ∃ q, q = chB y := ⟨_, rfl⟩
      rw [← hq] at hcc HTS HTF
      have HNF : Hid (q = false → nameB s = false) := fun h => by unfold nameB; rw [unhide HTF h, Bool.and_false]
      clear hq HTF
      generalize y.toNat = Y at *
      rcases hcc with ⟨h1, h2, h⟩ | ⟨h1, h⟩ | ⟨h1, h2, h3, h⟩ | ⟨h1, h⟩ | ⟨h1, h2, h3, h⟩ | ⟨h1, h⟩
      · have p1 : ((Y : Nat) : Int) ≥ 97 := by omega
        have p2 : ((Y : Nat) : Int) ≤ 122 := by omega
        have HT : Hid ((s.take (j + 1)).all chB = true) := by show _ = _; rw [unhide HTS, unhide HA, h]; rfl
        clear h
        go_wp2_with fail
        exact ⟨⟨j + 1, by omega, by go_num, unhide HT, trivial⟩, by simp [intOf]; omega⟩
      · have p1 : ((Y : Nat) : Int) ≥ 97 := by omega
        have p2 : ¬ ((Y : Nat) : Int) ≤ 122 := by omega
        have p3 : ((Y : Nat) : Int) ≥ 48 := by omega
        have p4 : ¬ ((Y : Nat) : Int) ≤ 57 := by omega
        have p5 : (((Y : Nat) : Int) == 95) = false := by rw [beq_eq_false_iff_ne]; omega
        have HF := hide (unhide HNF h)
        clear h
        go_wp2_with fail
        go_ret
        exact ⟨ret_bool (unhide HF).symm, rfl⟩
      · have p1 : ¬ ((Y : Nat) : Int) ≥ 97 := by omega
        have p3 : ((Y : Nat) : Int) ≥ 48 := by omega
        have p4 : ((Y : Nat) : Int) ≤ 57 := by omega
        have HT : Hid ((s.take (j + 1)).all chB = true) := by show _ = _; rw [unhide HTS, unhide HA, h]; rfl
        clear h
        go_wp2_with fail
        exact ⟨⟨j + 1, by omega, by go_num, unhide HT, trivial⟩, by simp [intOf]; omega⟩
      · have p1 : ¬ ((Y : Nat) : Int) ≥ 97 := by omega
        have p3 : ((Y : Nat) : Int) ≥ 48 := by omega
        have p4 : ¬ ((Y : Nat) : Int) ≤ 57 := by omega
        have p5 : (((Y : Nat) : Int) == 95) = true := by rw [beq_iff_eq]; omega
        have HT : Hid ((s.take (j + 1)).all chB = true) := by show _ = _; rw [unhide HTS, unhide HA, h]; rfl
        clear h h1
        go_wp2_with fail
        exact ⟨⟨j + 1, by omega, by go_num, unhide HT, trivial⟩, by simp [intOf]; omega⟩
      · have p1 : ¬ ((Y : Nat) : Int) ≥ 97 := by omega
        have p3 : ((Y : Nat) : Int) ≥ 48 := by omega
        have p4 : ¬ ((Y : Nat) : Int) ≤ 57 := by omega
        have p5 : (((Y : Nat) : Int) == 95) = false := by rw [beq_eq_false_iff_ne]; omega
        have HF := hide (unhide HNF h)
        clear h h3
        go_wp2_with fail
        go_ret
        exact ⟨ret_bool (unhide HF).symm, rfl⟩
      · have p1 : ¬ ((Y : Nat) : Int) ≥ 97 := by omega
        have p3 : ¬ ((Y : Nat) : Int) ≥ 48 := by omega
        have p5 : (((Y : Nat) : Int) == 95) = false := by rw [beq_eq_false_iff_ne]; omega
        have HF := hide (unhide HNF h)
        clear h
        go_wp2_with fail
        go_ret
        exact ⟨ret_bool (unhide HF).symm, rfl⟩
    · have e : j = n := by omega
      have hji : ¬ ((j : Nat) : Int) < ((n : Nat) : Int) := by omega
      have HF : Hid (nameB s = (decide (1 ≤ n) && decide (n ≤ 20))) := by
        show _ = _
        have h := unhide HA
        rw [List.take_of_length_le (by have := unhide HN; omega)] at h
        unfold nameB
        rw [h, ← unhide HN, Bool.and_true]
      clear e hlt
      by_cases h1 : 1 ≤ n
      · have p1 : ((n : Nat) : Int) ≥ 1 := by omega
        have H1 := hide h1
        by_cases h2 : n ≤ 20
        · have p2 : ((n : Nat) : Int) ≤ 20 := by omega
          have H2 := hide h2
          clear h1 h2
          go_wp2_with fail
          go_ret
          exact ⟨ret_bool (by rw [unhide HF, decide_eq_true (unhide H1), decide_eq_true (unhide H2)]; rfl), rfl⟩
        · have p2 : ¬ ((n : Nat) : Int) ≤ 20 := by omega
          have H2 := hide h2
          clear h1 h2
          go_wp2_with fail
          go_ret
          exact ⟨ret_bool (by rw [unhide HF, decide_eq_true (unhide H1), decide_eq_false (unhide H2)]; rfl), rfl⟩
      · have p1 : ¬ ((n : Nat) : Int) ≥ 1 := by omega
        have H1 := hide h1
        clear h1
        go_wp2_with fail
        go_ret
        exact ⟨ret_bool (by rw [unhide HF, decide_eq_false (unhide H1)]; rfl), rfl⟩
end Go.Proofs.YtdlbpbglidhlfaaGreatDoor

namespace Go.Proofs.YtdlbpbglidhlfaaGreatDoor
open Go.RowKit

set_option maxHeartbeats 1000000 in
theorem of_any (K : Nat) (hK : K < 256) (w : World) (hT : OTab w) : Calls Tryz.prog 24 #[.int .u8 ((K : Nat) : Int)] w fun e w' => e = .returned (.int .u8 ((OD.has K : Nat) : Int)) ∧ w' = w := by
  by_cases h6 : K < 6
  · have p1 : ¬ ((K : Nat) : Int) ≥ 6 := by omega
    have p2 : ((K : Nat) : Int) < 6 := by omega
    have hc := hT K h6
    clear hT
    generalize OD.has K = R at *
    go_enter Tryz.func24, Tryz.ntmps24
    go_wp2_with fail
    go_ret
    exact ⟨rfl, rfl⟩
  · have p1 : ((K : Nat) : Int) ≥ 6 := by omega
    have e : OD.has K = 0 := by unfold OD.has; split <;> first | rfl | omega
    rw [e]
    clear hT h6 e
    go_enter Tryz.func24, Tryz.ntmps24
    go_wp2_with fail
    go_ret
    exact ⟨rfl, rfl⟩
theorem sub_run : ∀ s : Fin 32, ∀ p : Fin 32, (((s.val &&& (255 - p.val) : Nat) : Int) == 0) = OD.sub s.val p.val := by decide +kernel
set_option maxHeartbeats 1000000 in
theorem has_any (p s : Nat) (hp : p < 32) (hs : s < 32) (w : World) : Calls Tryz.prog 26 #[.int .u8 ((p : Nat) : Int), .int .u8 ((s : Nat) : Int)] w fun e w' => e = .returned (.bool (OD.sub s p)) ∧ w' = w := by
  have h1 := u8_andNot_nat s p (by omega) (by omega)
  have h2 := sub_run ⟨s, hs⟩ ⟨p, hp⟩
  simp only at h2
  generalize ((s &&& (255 - p) : Nat) : Int) = X at *
  generalize OD.sub s p = R at *
  clear hp hs
  go_enter Tryz.func26, Tryz.ntmps26
  go_wp2_with fail
  go_ret
  exact ⟨rfl, rfl⟩
set_option maxHeartbeats 1000000 in
theorem when_any (p : Nat) (b : Bool) (w : World) : Calls Tryz.prog 47 #[.int .u8 ((p : Nat) : Int), .bool b] w fun e w' => e = .returned (.int .u8 ((p * b.toNat : Nat) : Int)) ∧ w' = w := by
  cases b with
  | true =>
    rw [show p * true.toNat = p by simp]
    go_enter Tryz.func47, Tryz.ntmps47
    go_wp2_with fail
    go_ret
    exact ⟨rfl, rfl⟩
  | false =>
    rw [show p * false.toNat = 0 by simp]
    go_enter Tryz.func47, Tryz.ntmps47
    go_wp2_with fail
    go_ret
    exact ⟨rfl, rfl⟩

theorem idCh_cases (y : UInt8) : (y.toNat < 33 ∧ idCh y = false) ∨ (33 ≤ y.toNat ∧ 126 < y.toNat ∧ idCh y = false) ∨ (33 ≤ y.toNat ∧ y.toNat ≤ 126 ∧ idCh y = true) := by
  have hc : idCh y = true ↔ 33 ≤ y.toNat ∧ y.toNat ≤ 126 := by
    unfold idCh
    simp only [Bool.and_eq_true, decide_eq_true_eq]
  have hf : idCh y = false ↔ ¬ (33 ≤ y.toNat ∧ y.toNat ≤ 126) := by rw [← hc]; simp
  rw [hc, hf]
  omega
set_option maxRecDepth 100000 in
set_option maxHeartbeats 2000000 in
theorem oID_any (s : List UInt8) (w : World) : Calls Tryz.prog 8 #[.string ⟨s.toArray⟩] w fun e w' => e = .returned (.bool (idB s)) ∧ w' = w := by
  have hsz := str_size s
  have HIX := hide (str_index s)
  obtain ⟨n, hn⟩ : ∃ n, n = s.length := ⟨_, rfl⟩
  rw [← hn] at hsz
  have HN := hide hn
  obtain ⟨z, hz⟩ : ∃ z : ByteArray, z = ⟨s.toArray⟩ := ⟨_, rfl⟩
  rw [← hz] at hsz ⊢
  have HZ := hide hz
  by_cases h1 : n < 1
  · have p1 : ((n : Nat) : Int) < 1 := by omega
    have HV : Hid (idB s = false) := by show _ = _; unfold idB; rw [← hn, decide_eq_false (show ¬ 1 ≤ n by omega)]; rfl
    rw [unhide HV]
    clear hn hz h1
    go_enter Tryz.func8, Tryz.ntmps8
    go_wp2_with fail
    go_ret
    exact ⟨rfl, rfl⟩
  have p1 : ¬ ((n : Nat) : Int) < 1 := by omega
  by_cases h2 : n > 400
  · have p2 : ((n : Nat) : Int) > 400 := by omega
    have HV : Hid (idB s = false) := by show _ = _; unfold idB; rw [← hn, decide_eq_false (show ¬ n ≤ 400 by omega)]; simp
    rw [unhide HV]
    clear hn hz h1 h2
    go_enter Tryz.func8, Tryz.ntmps8
    go_wp2_with fail
    go_ret
    exact ⟨rfl, rfl⟩
  have p2 : ¬ ((n : Nat) : Int) > 400 := by omega
  have hn20 : n ≤ 400 := by omega
  have HV : Hid (idB s = s.all idCh) := by show _ = _; unfold idB; rw [← hn, decide_eq_true (show 1 ≤ n by omega), decide_eq_true hn20]; rfl
  rw [unhide HV]
  clear hn hz h1 h2 HV
  go_enter Tryz.func8, Tryz.ntmps8
  go_wp2
  go_loopw [14] (fun k W => ∃ j : Nat, j ≤ n ∧ k = .int .i64 ((j : Nat) : Int) ∧ (s.take j).all idCh = true ∧ W = w) (fun k _ => n - (intOf k).toNat)
  case atStart => exact ⟨0, by omega, rfl, rfl, rfl⟩
  case round =>
    obtain ⟨j, hj, rfl, ha, hw⟩ := hrel
    rw [hw]
    clear hw
    have HA := hide ha
    clear ha
    by_cases hlt : j < n
    · have hji : ((j : Nat) : Int) < ((n : Nat) : Int) := by omega
      have hjs : j < s.length := by have := unhide HN; omega
      have hix := unhide HIX j hjs
      rw [← unhide HZ] at hix
      have HTS := hide (all_take_succ (p := idCh) hjs)
      have HTF := hide (all_take_false (p := idCh) hjs)
      generalize s[j] = y at *
      rcases idCh_cases y with ⟨h1, hc⟩ | ⟨h1, h2, hc⟩ | ⟨h1, h2, hc⟩
      · have HF := hide (unhide HTF hc)
        have p3 : ((y.toNat : Nat) : Int) < 33 := by omega
        clear h1 hc
        generalize y.toNat = Y at *
        go_wp2_with fail
        go_ret
        exact ⟨ret_bool (unhide HF).symm, rfl⟩
      · have HF := hide (unhide HTF hc)
        have p3 : ¬ ((y.toNat : Nat) : Int) < 33 := by omega
        have p4 : ((y.toNat : Nat) : Int) > 126 := by omega
        clear h1 h2 hc
        generalize y.toNat = Y at *
        go_wp2_with fail
        go_ret
        exact ⟨ret_bool (unhide HF).symm, rfl⟩
      · have HT : Hid ((s.take (j + 1)).all idCh = true) := by show _ = _; rw [unhide HTS, unhide HA, hc]; rfl
        have p3 : ¬ ((y.toNat : Nat) : Int) < 33 := by omega
        have p4 : ¬ ((y.toNat : Nat) : Int) > 126 := by omega
        clear h1 h2 hc HTS HTF
        generalize y.toNat = Y at *
        go_wp2_with fail
        exact ⟨⟨j + 1, by omega, by go_num, unhide HT, trivial⟩, by simp [intOf]; omega⟩
    · have e : j = n := by omega
      have hji : ¬ ((j : Nat) : Int) < ((n : Nat) : Int) := by omega
      have HF : Hid (s.all idCh = true) := by
        show _ = _
        have h := unhide HA
        rw [List.take_of_length_le (by have := unhide HN; omega)] at h
        exact h
      clear e
      go_wp2_with fail
      go_ret
      exact ⟨ret_bool (unhide HF).symm, rfl⟩
end Go.Proofs.YtdlbpbglidhlfaaGreatDoor

namespace Go.Proofs.YtdlbpbglidhlfaaGreatDoor
open Go.RowKit

/-- append of cells onto an owned row: the row goes on in its block, or in a new one. -/
theorem run_append_rowF {P : Program} (w : World) (t ty e : TypeId) (i : TypeInfo) (z : Value) (S Bt : Nat) (ht : P.underlying t = some (.slice e)) (hi : P.info? e = some i) (hz : i.zero = some z) (hs : i.size = S) (hb : i.bytes = Bt) (hzs : z.cells.size = S) (hS : 0 < S)
    (v : Value) (n : Nat) (xs : List Value) (hown : w.ownsRow 0 e S v n xs) (ao : Option Addr) (m c : Nat) (cs : List Value) (hcl : cs.length = m * S) (hsome : ∀ ad, ao = some ad → ∀ j u, cs[j]? = some u → w.cell? (ad.add j) = some u) (hnone : ao = none → m = 0 ∧ c = 0) (hone : ∀ u ∈ cs, u.oneCell' = true) (h63 : n + m ≤ maxLen) (hbytes : (n + m) * Bt ≤ 140737488355328) :
    ∃ v' w', (Builtin.append_ #[t, t] ty #[v, .slice ao m c]).run P w = .ok v' w' ∧ w'.ownsRow 0 e S v' (n + m) (xs ++ cs) ∧ w.grownBy w' v.ownBlock ∧
      (v'.ownBlock = v.ownBlock ∨ ∃ k, v'.ownBlock = some k ∧ w.heap.size ≤ k) := by
  cases ao with
  | none =>
    obtain ⟨rfl, rfl⟩ := hnone rfl
    have hcs : cs = [] := List.eq_nil_of_length_eq_zero (by omega)
    subst hcs
    exact ⟨v, w, run_append_owned_none (P := P) w 0 t ty e i S ht hi v n xs hown, by simpa using hown, World.grownBy.refl _ _, .inl rfl⟩
  | some ad =>
    have hc := hsome ad rfl
    have hxl : xs.length = n * S := hown.1
    rcases hown.2 with ⟨rfl, hn⟩ | ⟨g, cap, cur, rfl, _, hg, hnc, hcm, hcs, htk⟩
    · subst hn
      have hxn : xs = [] := List.eq_nil_of_length_eq_zero (by omega)
      subst hxn
      obtain ⟨v', w', hrun, r1, r2, _⟩ := run_append_own (P := P) w w.heap.size t ty e i z S Bt ht hi hz hs hb hzs hS (.slice none 0 0) 0 [] (World.ownsRow_nil w _ _ S) ad m c cs hcl hc hone (by omega) hbytes (Nat.le_refl _)
      refine ⟨v', w', hrun, ⟨r1.1, ?_⟩, r2, ?_⟩
      · rcases r1.2 with ⟨a, b⟩ | ⟨g, cap, cur, a, b, rest⟩
        · exact .inl ⟨a, b⟩
        · exact .inr ⟨g, cap, cur, a, Nat.zero_le _, rest⟩
      · rcases r1.2 with ⟨a, b⟩ | ⟨g, cap, cur, a, b, rest⟩
        · exact .inl (by rw [a])
        · exact .inr ⟨g, by rw [a]; rfl, b⟩
    · by_cases hroom : n + m ≤ cap
      · obtain ⟨w', hrun, r1, r2⟩ := run_append_fits (P := P) w 0 t ty e i S ht hi hs g n cap xs hown ad m c cs hcl hc hone hroom
        exact ⟨_, w', hrun, r1, r2, .inl rfl⟩
      · have hold : ∀ j u, xs[j]? = some u → w.cell? ((⟨g, 0, none⟩ : Addr).add j) = some u := hown.cells (g := g) rfl
        obtain ⟨v', w', hrun, r1, r2⟩ := run_append_arg_grows (P := P) w t ty e i z S Bt ht hi hz hs hb hzs hS ⟨g, 0, none⟩ n cap xs hxl hold ad m c cs hcl hc (by omega) h63 hbytes
        have r3 : w.grownBy w' (some g) := ⟨r2.os, r2.tape, r2.output, r2.size, fun k hk _ => r2.block k hk (by simp)⟩
        refine ⟨v', w', hrun, ⟨r1.1, ?_⟩, r3, ?_⟩
        · rcases r1.2 with ⟨a, b⟩ | ⟨g', cap', cur', a, b, rest⟩
          · exact .inl ⟨a, b⟩
          · exact .inr ⟨g', cap', cur', a, Nat.zero_le _, rest⟩
        · rcases r1.2 with ⟨a, b⟩ | ⟨g', cap', cur', a, b, rest⟩
          · omega
          · exact .inr ⟨g', by rw [a]; rfl, b⟩
theorem ownsF_keeps {W W' : World} {e : TypeId} {s : Nat} {v : Value} {n : Nat} {xs : List Value} (h : W.ownsRow 0 e s v n xs) (hk : ∀ k, v.ownBlock = some k → W'.heap[k]? = W.heap[k]?) : W'.ownsRow 0 e s v n xs := by
  refine ⟨h.1, ?_⟩
  rcases h.2 with hn | ⟨g, cap, cur, hv, hb0, hg, rest⟩
  · exact .inl hn
  · exact .inr ⟨g, cap, cur, hv, hb0, (hk g (by rw [hv]; rfl)).trans hg, rest⟩
theorem ownsF_form {W : World} {e : TypeId} {s : Nat} {v : Value} {n : Nat} {xs : List Value} (h : W.ownsRow 0 e s v n xs) : ∃ a c, v = .slice a n c ∧ n ≤ c ∧ c ≤ maxLen ∧ (∀ b, a = some b → b.off = 0 ∧ b.spot = none) := by
  rcases h.2 with ⟨rfl, rfl⟩ | ⟨g, cap, cur, rfl, _, hg, hnc, hcm, _⟩
  · exact ⟨none, 0, rfl, Nat.le_refl _, Nat.zero_le _, fun b hb => by cases hb⟩
  · exact ⟨_, cap, rfl, hnc, hcm, fun b hb => by cases hb; exact ⟨rfl, rfl⟩⟩

theorem infoStr0 : (Tryz.prog.info? 9).map (fun i => (i.size, i.bytes, i.zero.map (·.cells.size))) = some (1, 16, some 1) := by kernel_rfl
theorem infoStr : ∃ i z, Tryz.prog.info? 9 = some i ∧ i.zero = some z ∧ i.size = 1 ∧ i.bytes = 16 ∧ z.cells.size = 1 := by
  have h := infoStr0
  cases hi : Tryz.prog.info? 9 with
  | none => rw [hi] at h; cases h
  | some i =>
    rw [hi] at h
    simp only [Option.map_some, Option.some.injEq, Prod.mk.injEq] at h
    obtain ⟨h1, h2, h3⟩ := h
    cases hz : i.zero with
    | none => rw [hz] at h3; cases h3
    | some z =>
      rw [hz] at h3
      exact ⟨i, z, rfl, hz, h1, h2, by simpa using h3⟩
theorem infoItem0 : (Tryz.prog.info? 62).map (fun i => (i.size, i.bytes, i.zero.map (·.cells.size))) = some (6, 80, some 6) := by kernel_rfl
theorem infoItem : ∃ i z, Tryz.prog.info? 62 = some i ∧ i.zero = some z ∧ i.size = 6 ∧ i.bytes = 80 ∧ z.cells.size = 6 := by
  have h := infoItem0
  cases hi : Tryz.prog.info? 62 with
  | none => rw [hi] at h; cases h
  | some i =>
    rw [hi] at h
    simp only [Option.map_some, Option.some.injEq, Prod.mk.injEq] at h
    obtain ⟨h1, h2, h3⟩ := h
    cases hz : i.zero with
    | none => rw [hz] at h3; cases h3
    | some z =>
      rw [hz] at h3
      exact ⟨i, z, rfl, hz, h1, h2, by simpa using h3⟩

/-- Nothing of the block is frozen. -/
def NFr (W : World) (k : Nat) : Prop := ∀ i, W.frozen? ⟨k, i, none⟩ = false
theorem NFr.keep {W W' : World} {k : Nat} (h : NFr W k) (e : W'.heap[k]? = W.heap[k]?) : NFr W' k := fun i => (World.frozen?_of_block (a := ⟨k, i, none⟩) e).trans (h i)

/-- A text as a cell. -/
def sv (s : List UInt8) : Value := .string ⟨s.toArray⟩
theorem sv_one (l : List (List UInt8)) : ∀ u ∈ l.map sv, u.oneCell' = true := by
  intro u hu
  obtain ⟨_, _, rfl⟩ := List.mem_map.1 hu
  rfl
/-- The slice r, in a block of ours from B0 on, holds the texts. -/
structure StrsO (B0 : Nat) (W : World) (r : Value) (l : List (List UInt8)) : Prop where
  row : W.ownsRow 0 9 1 r l.length (l.map sv)
  new : ∀ k, r.ownBlock = some k → B0 ≤ k
  len : ∀ s ∈ l, s.length ≤ maxLen
theorem StrsO.nil (B0 : Nat) (W : World) : StrsO B0 W (.slice none 0 0) [] := ⟨World.ownsRow_nil W 0 _ 1, fun k hk => (by cases hk), fun s hs => (by cases hs)⟩
theorem StrsO.later {B0 : Nat} {W W' : World} {r : Value} {l : List (List UInt8)} (h : StrsO B0 W r l) (hb : Below W.heap.size W W') : StrsO B0 W' r l := ⟨ownsF_keeps h.row fun k hk => hb.block k (h.row.lt k hk).2, h.new, h.len⟩
theorem StrsO.kept {B0 : Nat} {W W' : World} {r : Value} {l : List (List UInt8)} (h : StrsO B0 W r l) (hk : ∀ k, r.ownBlock = some k → W'.heap[k]? = W.heap[k]?) : StrsO B0 W' r l := ⟨ownsF_keeps h.row hk, h.new, h.len⟩
theorem StrsO.lt {B0 : Nat} {W : World} {r : Value} {l : List (List UInt8)} (h : StrsO B0 W r l) {k : Nat} (hk : r.ownBlock = some k) : k < W.heap.size := (h.row.lt k hk).2
/-- What such a row reads as. -/
theorem StrsO.at {B0 : Nat} {W : World} {r : Value} {l : List (List UInt8)} (h : StrsO B0 W r l) : ∃ a c, r = .slice a l.length c ∧ l.length ≤ c ∧ c ≤ maxLen ∧ StrsAt (fun k => (B0 ≤ k ∧ NFr W k) ∧ r.ownBlock = some k) W a l := by
  rcases h.row.2 with ⟨rfl, hn⟩ | ⟨g, cap, cur, hr, _, hg, hnc, hcm, _⟩
  · have : l = [] := List.eq_nil_of_length_eq_zero hn
    subst this
    exact ⟨none, 0, rfl, Nat.le_refl _, Nat.zero_le _, StrsAt.nil _ _ _⟩
  · refine ⟨_, cap, hr, hnc, hcm, fun j hj => ⟨g, 0, rfl, ⟨⟨h.new g (by rw [hr]; rfl), fun i => frozen_of_row _ _ _ _ _ hg⟩, by rw [hr]; rfl⟩, ?_, h.len _ (List.getElem_mem hj)⟩⟩
    have h5 := h.row.cells (g := g) (by rw [hr]; rfl) j (sv (l[j]'hj)) (by rw [List.getElem?_map, List.getElem?_eq_getElem hj]; rfl)
    rw [Addr.add_mid] at h5
    exact h5
/-- append of texts. -/
theorem StrsO.append {B0 : Nat} {W : World} {r : Value} {l m : List (List UInt8)} (h : StrsO B0 W r l) (hB : B0 ≤ W.heap.size) {B : Nat → Prop} {a : Option Addr} {c : Nat} (hm : StrsAt B W a m) (hmc : m.length ≤ c) (ha : a = none → c = 0) (hl : l.length + m.length ≤ 1048576) (ty : TypeId) :
    ∃ r' W', (Builtin.append_ #[60, 60] ty #[r, .slice a m.length c]).run Tryz.prog W = .ok r' W' ∧ StrsO B0 W' r' (l ++ m) ∧ W.grownBy W' r.ownBlock ∧ (r'.ownBlock = r.ownBlock ∨ ∃ k, r'.ownBlock = some k ∧ W.heap.size ≤ k) := by
  obtain ⟨i, z, hi, hz, hs, hb, hzs⟩ := infoStr
  have hml : ∀ s ∈ m, s.length ≤ maxLen := fun s hs => by
    obtain ⟨j, hj, rfl⟩ := List.getElem_of_mem hs
    obtain ⟨_, _, _, _, _, h5⟩ := hm j hj
    exact h5
  obtain ⟨r', W', hrun, r1, r2, r3⟩ := run_append_rowF (P := Tryz.prog) W 60 ty 9 i z 1 16 Tryz.underlying60 hi hz hs hb hzs (by decide) r l.length (l.map sv) h.row a m.length c (m.map sv) (by simp) (fun ad had j u hu => by
    have hj : j < m.length := by have := (List.getElem?_eq_some_iff.1 hu).1; simpa using this
    obtain ⟨b, o, hb, _, hc, _⟩ := hm j hj
    rw [hb] at had
    cases had
    rw [List.getElem?_map, List.getElem?_eq_getElem hj] at hu
    cases hu
    rw [Addr.add_mid]
    exact hc) (fun e => ⟨by have := ha e; omega, ha e⟩) (sv_one m) (by unfold maxLen; omega) (by omega)
  refine ⟨r', W', hrun, ⟨by simpa using r1, fun k hk => ?_, fun s hs => ?_⟩, r2, r3⟩
  · rcases r3 with e | ⟨k', e, hle⟩
    · rw [e] at hk; exact h.new k hk
    · rw [e] at hk; cases hk; omega
  · rcases List.mem_append.1 hs with hs | hs
    · exact h.len s hs
    · exact hml s hs

/-- The i-th item of cells. -/
def aggF (xs : List Value) (i : Nat) : Value := .agg #[xs.getD (i * 6) undef, xs.getD (i * 6 + 1) undef, xs.getD (i * 6 + 2) undef, xs.getD (i * 6 + 3) undef, xs.getD (i * 6 + 4) undef, xs.getD (i * 6 + 5) undef]
theorem aggF_append {xs ys : List Value} {n i : Nat} (hx : xs.length = n * 6) (hi : i < n) : aggF (xs ++ ys) i = aggF xs i := by
  have ge : ∀ p, p < n * 6 → (xs ++ ys).getD p undef = xs.getD p undef := fun p hp => by
    rw [List.getD_eq_getElem?_getD, List.getD_eq_getElem?_getD, List.getElem?_append_left (by omega)]
  unfold aggF
  rw [ge _ (by omega), ge _ (by omega), ge _ (by omega), ge _ (by omega), ge _ (by omega), ge _ (by omega)]
theorem aggF_append_right {xs ys : List Value} {n i : Nat} (hx : xs.length = n * 6) : aggF (xs ++ ys) (n + i) = aggF ys i := by
  have ge : ∀ p, (xs ++ ys).getD (n * 6 + p) undef = ys.getD p undef := fun p => by
    rw [List.getD_eq_getElem?_getD, List.getD_eq_getElem?_getD, List.getElem?_append_right (by omega), hx, Nat.add_sub_cancel_left]
  unfold aggF
  rw [show (n + i) * 6 = n * 6 + i * 6 by omega, ge, Nat.add_assoc, ge, Nat.add_assoc, ge, Nat.add_assoc, ge, Nat.add_assoc, ge, Nat.add_assoc, ge]
/-- The slice r, in a block of ours from B0 on, holds the items; their names lie in other blocks, of B. -/
structure ItemsO (B0 : Nat) (B : World → Nat → Prop) (W : World) (r : Value) (q : List FI) : Prop where
  row : ∃ xs, W.ownsRow 0 62 6 r q.length xs ∧ ∀ i (h : i < q.length), (q[i]'h).At (fun k => B W k ∧ r.ownBlock ≠ some k) W (aggF xs i)
  new : ∀ k, r.ownBlock = some k → B0 ≤ k
theorem ItemsO.nil (B0 : Nat) (B : World → Nat → Prop) (W : World) : ItemsO B0 B W (.slice none 0 0) [] := ⟨⟨[], World.ownsRow_nil W 0 _ 6, fun i h => absurd h (Nat.not_lt_zero i)⟩, fun k hk => by cases hk⟩
theorem ItemsO.kept {B0 : Nat} {B : World → Nat → Prop} {W W' : World} {r : Value} {q : List FI} (h : ItemsO B0 B W r q) (hr : ∀ k, r.ownBlock = some k → W'.heap[k]? = W.heap[k]?) (hk : ∀ k, B W k → k < W.heap.size → W'.heap[k]? = W.heap[k]?) (hB : ∀ k, B W k → k < W.heap.size → B W' k) : ItemsO B0 B W' r q := by
  obtain ⟨⟨xs, h1, h2⟩, h3⟩ := h
  exact ⟨⟨xs, ownsF_keeps h1 hr, fun i hi => (h2 i hi).kept (fun k hk' hlt => hk k hk'.1 hlt) (fun k hk' hlt => ⟨hB k hk'.1 hlt, hk'.2⟩)⟩, h3⟩
theorem ItemsO.later {B0 : Nat} {B : World → Nat → Prop} {W W' : World} {r : Value} {q : List FI} (h : ItemsO B0 B W r q) (hb : Below W.heap.size W W') (hB : ∀ k, B W k → k < W.heap.size → B W' k) : ItemsO B0 B W' r q :=
  h.kept (fun k hk => by obtain ⟨xs, h1, _⟩ := h.row; exact hb.block k (h1.lt k hk).2) (fun k _ hk => hb.block k hk) hB
theorem ItemsO.lt {B0 : Nat} {B : World → Nat → Prop} {W : World} {r : Value} {q : List FI} (h : ItemsO B0 B W r q) {k : Nat} (hk : r.ownBlock = some k) : k < W.heap.size := by
  obtain ⟨xs, h1, _⟩ := h.row
  exact (h1.lt k hk).2
/-- What such a row reads as. -/
theorem ItemsO.at {B0 : Nat} {B : World → Nat → Prop} {W : World} {r : Value} {q : List FI} (h : ItemsO B0 B W r q) {C : Nat → Prop} (hC : ∀ k, B W k → C k) (hR : ∀ k, r.ownBlock = some k → NFr W k → C k) : FragAt C W q r := by
  obtain ⟨⟨xs, h1, h2⟩, h3⟩ := h
  rcases h1.2 with ⟨e, e0⟩ | ⟨g, cap, cur, e, _, hg, hc, hm, hcs, htk⟩
  · have : q = [] := List.eq_nil_of_length_eq_zero e0
    subst this
    rw [e]
    exact FragAt.nil _ _
  · refine ⟨some ⟨g, 0, none⟩, cap, e, hc, hm, fun j hj => ?_⟩
    have hxl : xs.length = q.length * 6 := h1.1
    have hcell : ∀ p, p < q.length * 6 → W.cell? ⟨g, 0 + p, none⟩ = some (xs.getD p undef) := fun p hp => by
      have h5 := h1.cells (g := g) (by rw [e]; rfl) p (xs.getD p undef) (by rw [List.getD_eq_getElem?_getD, List.getElem?_eq_getElem (by omega)]; rfl)
      rw [Addr.add_mid] at h5
      exact h5
    obtain ⟨pa, pc, hu, hf, hl, hcm, hS⟩ := h2 j hj
    unfold aggF FI.agg at hu
    simp only [Value.agg.injEq] at hu
    replace hu := congrArg Array.toList hu
    simp only [List.cons.injEq, and_true] at hu
    obtain ⟨e0, e1, e2, e3, e4, e5⟩ := hu
    refine ⟨g, 0, pa, pc, rfl, hR g (by rw [e]; rfl) (fun i => frozen_of_row _ _ _ _ _ hg), ⟨?_, ?_, ?_, ?_, ?_, ?_⟩, hf, hl, hcm, hS.kept (fun _ _ _ => rfl) (fun k hk _ => hC k hk.1)⟩
    · rw [hcell _ (by omega), e0]
    · have := hcell (j * 6 + 1) (by omega); rwa [e1, show 0 + (j * 6 + 1) = 0 + j * 6 + 1 by omega] at this
    · have := hcell (j * 6 + 2) (by omega); rwa [e2, show 0 + (j * 6 + 2) = 0 + j * 6 + 2 by omega] at this
    · have := hcell (j * 6 + 3) (by omega); rwa [e3, show 0 + (j * 6 + 3) = 0 + j * 6 + 3 by omega] at this
    · have := hcell (j * 6 + 4) (by omega); rwa [e4, show 0 + (j * 6 + 4) = 0 + j * 6 + 4 by omega] at this
    · have := hcell (j * 6 + 5) (by omega); rwa [e5, show 0 + (j * 6 + 5) = 0 + j * 6 + 5 by omega] at this
theorem ItemsO.form {B0 : Nat} {B : World → Nat → Prop} {W : World} {r : Value} {q : List FI} (h : ItemsO B0 B W r q) : ∃ a c, r = .slice a q.length c ∧ q.length ≤ c := by
  obtain ⟨⟨xs, h1, _⟩, _⟩ := h
  obtain ⟨a, c, h2, h3, _⟩ := ownsF_form h1
  exact ⟨a, c, h2, h3⟩

/-- The cells of items in a row. -/
theorem items_cells {B : Nat → Prop} {W : World} {a : Option Addr} {m : List FI} (hm : ItemsAt B W a m) : ∃ cs : List Value, cs.length = m.length * 6 ∧ (∀ ad, a = some ad → ∀ j u, cs[j]? = some u → W.cell? (ad.add j) = some u) ∧ (∀ u ∈ cs, u.oneCell' = true) ∧ ∀ i (h : i < m.length), (m[i]'h).At B W (aggF cs i) := by
  have key : ∀ n, n ≤ m.length → ∃ cs : List Value, cs.length = n * 6 ∧ (∀ ad, a = some ad → ∀ j u, cs[j]? = some u → W.cell? (ad.add j) = some u) ∧ (∀ u ∈ cs, u.oneCell' = true) ∧ ∀ i (h : i < m.length), i < n → (m[i]'h).At B W (aggF cs i) := by
    intro n
    induction n with
    | zero => intro _; exact ⟨[], rfl, fun ad _ j u hu => (by cases hu), fun u hu => (by cases hu), fun i _ h => absurd h (Nat.not_lt_zero i)⟩
    | succ n ih =>
      intro hn
      obtain ⟨cs, h1, h2, h3, h4⟩ := ih (by omega)
      have hnm : n < m.length := by omega
      obtain ⟨b, o, pa, pc, ha, hb, hc, hf, hl, hcm, hS⟩ := hm n hnm
      obtain ⟨y, hy⟩ : ∃ y, y = m[n]'hnm := ⟨_, rfl⟩
      rw [← hy] at hc hf hl hS
      obtain ⟨ys, hys⟩ : ∃ ys : List Value, ys = [.string ⟨y.name.toArray⟩, .int .u8 ((y.k : Nat) : Int), .slice pa y.after.length pc, .string ⟨y.over.toArray⟩, .int .i64 y.width, .int .i64 y.quota] := ⟨_, rfl⟩
      have hyl : ys.length = 6 := by rw [hys]; rfl
      refine ⟨cs ++ ys, by rw [List.length_append, h1, hyl]; omega, fun ad had j u hu => ?_, fun u hu => ?_, fun i hi hin => ?_⟩
      · rw [ha] at had
        cases had
        rw [Addr.add_mid]
        by_cases hj : j < n * 6
        · rw [List.getElem?_append_left (by omega)] at hu
          have := h2 _ ha j u hu
          rwa [Addr.add_mid] at this
        · rw [List.getElem?_append_right (by omega), h1] at hu
          obtain ⟨p, hp⟩ : ∃ p, j = n * 6 + p := ⟨j - n * 6, by omega⟩
          subst hp
          rw [Nat.add_sub_cancel_left, hys] at hu
          rw [← Nat.add_assoc]
          match p, hu with
          | 0, hu => cases hu; exact hc.c0
          | 1, hu => cases hu; exact hc.c1
          | 2, hu => cases hu; exact hc.c2
          | 3, hu => cases hu; exact hc.c3
          | 4, hu => cases hu; exact hc.c4
          | 5, hu => cases hu; exact hc.c5
          | p + 6, hu => simp at hu
      · rcases List.mem_append.1 hu with hu | hu
        · exact h3 u hu
        · rw [hys] at hu
          simp only [List.mem_cons, List.mem_nil_iff, or_false] at hu
          rcases hu with rfl | rfl | rfl | rfl | rfl | rfl <;> rfl
      · by_cases hlt : i < n
        · rw [aggF_append h1 hlt]
          exact h4 i hi hlt
        · have hi' : i = n := by omega
          have e : (m[i]'hi) = y := by rw [hy]; congr 1
          have e2 : aggF (cs ++ ys) i = y.agg pa pc := by
            have := aggF_append_right (ys := ys) (i := 0) h1
            rw [Nat.add_zero] at this
            rw [hi', this, hys]
            rfl
          rw [e, e2]
          exact ⟨pa, pc, rfl, hf, hl, hcm, hS⟩
  obtain ⟨cs, h1, h2, h3, h4⟩ := key m.length (Nat.le_refl _)
  exact ⟨cs, h1, h2, h3, fun i hi => h4 i hi hi⟩

/-- append of items: the row goes on in its block, or in a new one. -/
theorem ItemsO.append {B0 : Nat} {B : World → Nat → Prop} {W : World} {r : Value} {q m : List FI} (h : ItemsO B0 B W r q) (hB0 : B0 ≤ W.heap.size) {a : Option Addr} {c : Nat} (hm : ItemsAt (fun k => B W k ∧ r.ownBlock ≠ some k) W a m)
    (hB : ∀ W', W.grownBy W' r.ownBlock → ∀ k, B W k → r.ownBlock ≠ some k → k < W.heap.size → B W' k) (hmc : m.length ≤ c) (ha : a = none → c = 0) (hl : q.length + m.length ≤ 1048576) (ty : TypeId) :
    ∃ r' W', (Builtin.append_ #[25, 25] ty #[r, .slice a m.length c]).run Tryz.prog W = .ok r' W' ∧ ItemsO B0 B W' r' (q ++ m) ∧ W.grownBy W' r.ownBlock ∧ (r'.ownBlock = r.ownBlock ∨ ∃ k, r'.ownBlock = some k ∧ W.heap.size ≤ k) := by
  obtain ⟨i, z, hi, hz, hs, hb, hzs⟩ := infoItem
  obtain ⟨⟨xs, h1, h2⟩, h3⟩ := h
  obtain ⟨cs, g1, g2, g3, g4⟩ := items_cells hm
  have hxl : xs.length = q.length * 6 := h1.1
  obtain ⟨r', W', hrun, r1, r2, r3⟩ := run_append_rowF (P := Tryz.prog) W 25 ty 62 i z 6 80 Tryz.underlying25 hi hz hs hb hzs (by decide) r q.length xs h1 a m.length c cs g1 g2 (fun e => ⟨by have := ha e; omega, ha e⟩) g3 (by unfold maxLen; omega) (by omega)
  have kept : ∀ {y : FI} {u : Value}, y.At (fun k => B W k ∧ r.ownBlock ≠ some k) W u → y.At (fun k => B W' k ∧ r'.ownBlock ≠ some k) W' u := fun hy =>
    hy.kept (fun k hk hlt => r2.block k hlt (fun e => hk.2 e.symm)) (fun k hk hlt => ⟨hB W' r2 k hk.1 hk.2 hlt, fun e => by
      rcases r3 with e2 | ⟨k', e2, hle⟩
      · rw [e2] at e; exact hk.2 e
      · rw [e2] at e; cases e; omega⟩)
  refine ⟨r', W', hrun, ⟨⟨xs ++ cs, by rw [List.length_append]; exact r1, fun i hi => ?_⟩, fun k hk => ?_⟩, r2, r3⟩
  · rw [List.length_append] at hi
    by_cases hlt : i < q.length
    · rw [List.getElem_append_left hlt, aggF_append hxl hlt]
      exact kept (h2 i hlt)
    · obtain ⟨p, rfl⟩ : ∃ p, i = q.length + p := ⟨i - q.length, by omega⟩
      rw [aggF_append_right hxl]
      have hp : p < m.length := by omega
      have e : (q ++ m)[q.length + p] = m[p] := by rw [List.getElem_append_right (by omega)]; simp only [Nat.add_sub_cancel_left]
      rw [e]
      exact kept (g4 p hp)
  · rcases r3 with e | ⟨k', e, hle⟩
    · rw [e] at hk; exact h3 k hk
    · rw [e] at hk; cases hk; omega
end Go.Proofs.YtdlbpbglidhlfaaGreatDoor
