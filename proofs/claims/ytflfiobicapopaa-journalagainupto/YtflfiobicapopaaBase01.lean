/- Gen2, HeadRead, HeadPick, LowSame, QuietB, HeadPure, Disk, Leaf, Leaf2, Leaf3: our own definitions and contracts; no statement of the seat is proved here. -/
import Derived.Test.YtflfiobicapopaaBase00
import Derived.Deep.RegionWith
import Derived.Deep.QuietTactic
import Derived.BigQuiet
namespace Go.Proofs.Ytflfiobicapopaa
open Go.RowKit

/-- b[l:h]: its value, whatever the world, and its bytes. -/
theorem slice_mid {w : World} {a : Option Addr} {n c l h : Nat} {bs : List UInt8} (hb : Bytes w (.slice a n c) bs) (h1 : l ≤ h) (h2 : h ≤ n) : ∃ sa sc, Bytes w (.slice sa (h - l) sc) ((bs.drop l).take (h - l)) ∧ (∀ W : World, (Instr.slice 49 (.slice a n c) (some (.int .i64 (l : Nat))) (some (.int .i64 (h : Nat))) none).run Try.prog W = .ok (.slice sa (h - l) sc) W) ∧ (∀ W : World, (Instr.sliceAt 49 (.slice a n c) (some (.int .i64 (l : Nat))) (some (.int .i64 (h : Nat))) none).run Try.prog W = .ok (.slice sa (h - l) sc) W) ∧ (∀ k, (Value.slice sa (h - l) sc).ownBlock = some k → (Value.slice a n c).ownBlock = some k) := by
  obtain ⟨hl, hnc⟩ := bytes_len hb
  have hu : Try.prog.underlying 49 = some (.slice 5) := Try.underlying49
  have hel : Try.prog.elem 49 = 5 := by unfold Program.elem; rw [hu]
  have hu' : Try.prog.underlying 49 = some (.slice (Try.prog.elem 49)) := by rw [hel]; exact hu
  have hr : ∀ W : World, (Instr.slice 49 (.slice a n c) (some (.int .i64 (l : Nat))) (some (.int .i64 (h : Nat))) none).run Try.prog W = .ok (.slice (if c = l then a else a.map (·.add l)) (h - l) (c - l)) W := fun W => by
    rw [run_slice_lh W 49 a n c hu' .i64 .i64 l h (by omega) (by omega) (by omega), hel]
    have hsz : (sizeOf 5).run Try.prog W = .ok 1 W := by simp [sizeOf]; rfl
    rw [hsz]
    simp only [Result.andThen, sliced, Int.toNat_natCast, Nat.mul_one]
  refine ⟨_, _, ?_, hr, fun W => by rw [run_sliceAt_slice W _ _ _ _ _ hu']; exact hr W, fun k hk => ?_⟩
  · have hdl : ((bs.drop l).take (h - l)).length = h - l := by rw [List.length_take, List.length_drop]; omega
    rcases hb with ⟨hv, hbn⟩ | ⟨ad, c', hv, hl1, hl2, hbb⟩
    · simp only [Value.slice.injEq] at hv
      obtain ⟨rfl, hn, rfl⟩ := hv
      have e1 : l = 0 := by omega
      have e2 : h = 0 := by omega
      subst e1 e2
      exact .inl ⟨by simp, by rw [hbn]; simp⟩
    · simp only [Value.slice.injEq] at hv
      obtain ⟨rfl, _, rfl⟩ := hv
      by_cases hc : c = l
      · rw [if_pos hc]
        have e0 : h - l = 0 := by omega
        rw [e0]
        exact .inr ⟨ad, c - l, rfl, Nat.zero_le _, by omega, fun j x hx => by simp at hx⟩
      · rw [if_neg hc]
        refine .inr ⟨ad.add l, c - l, by rw [hdl]; rfl, by rw [hdl]; omega, by omega, fun j x hx => ?_⟩
        have hj : j < h - l := by have := (List.getElem?_eq_some_iff.1 hx).1; rw [List.length_map, hdl] at this; exact this
        have := hbb (l + j) x (by rw [List.map_take, List.map_drop, List.getElem?_take, if_pos hj, List.getElem?_drop] at hx; exact hx)
        rwa [Addr.add_add]
  · split at hk
    · cases a <;> exact hk
    · cases a with
      | none => cases hk
      | some ad =>
        have e : (ad.add l).block = ad.block := add_block ad l
        have hk' : some (ad.add l).block = some k := hk
        rw [e] at hk'
        exact hk'

/-- b[:h]: its value, whatever the world, and its bytes. -/
theorem slice_to {w : World} {a : Option Addr} {n c h : Nat} {bs : List UInt8} (hb : Bytes w (.slice a n c) bs) (h1 : h ≤ n) : ∃ sa sc, Bytes w (.slice sa h sc) (bs.take h) ∧ (∀ W : World, (Instr.slice 49 (.slice a n c) none (some (.int .i64 (h : Nat))) none).run Try.prog W = .ok (.slice sa h sc) W) ∧ (∀ W : World, (Instr.sliceAt 49 (.slice a n c) none (some (.int .i64 (h : Nat))) none).run Try.prog W = .ok (.slice sa h sc) W) := by
  obtain ⟨hl, hnc⟩ := bytes_len hb
  obtain ⟨sa, sc, B, q, _, _⟩ := slice_mid (l := 0) (h := h) hb (Nat.zero_le _) h1
  have hu : Try.prog.underlying 49 = some (.slice 5) := Try.underlying49
  have hel : Try.prog.elem 49 = 5 := by unfold Program.elem; rw [hu]
  have hu' : Try.prog.underlying 49 = some (.slice (Try.prog.elem 49)) := by rw [hel]; exact hu
  have hr : ∀ W : World, (Instr.slice 49 (.slice a n c) none (some (.int .i64 (h : Nat))) none).run Try.prog W = .ok (.slice sa h sc) W := fun W => by
    have e1 := run_slice_h W 49 a n c hu' .i64 h (by omega) (by omega)
    have e2 := run_slice_lh W 49 a n c hu' .i64 .i64 (0 : Nat) h (by omega) (by omega) (by omega)
    have e3 := q W
    rw [e2] at e3
    rw [e1]
    exact e3
  exact ⟨sa, sc, B, hr, fun W => by rw [run_sliceAt_slice W _ _ _ _ _ hu']; exact hr W⟩

/-- A struct in a cell and two numbers in slots are handed back. -/
theorem results_ctt {P : Program} {fn : Func} {p u v : Tmp} {ty : TypeId} (h : fn.results = #[.cell p ty, .tmp u, .tmp v]) (tmps : Array Value) (w : World) (g : Nat) (t : TypeId) (cs : Array Value) (fr : Nat × Nat) (d : TypeDesc)
    (hp : tmps.getD p undef = .pointer (some ⟨g, 0, none⟩)) (hg : w.heap[g]? = some (.cells cs t fr))
    (hu : P.underlying ty = some d) (hd : (match d with | .struct _ | .array _ _ => true | _ => false) = true) (hi : (P.info? ty).map (·.size) = some cs.size) :
    (results fn tmps).run P w = .ok (.tuple #[.agg cs, tmps.getD u undef, tmps.getD v undef]) w := by
  have hp' : tmps[p]?.getD undef = .pointer (some ⟨g, 0, none⟩) := by simpa using hp
  simp only [results, h]
  simp [Result.andThen, hp', asAddr, run_loadVar_row w g t ty cs fr d hg hu hd hi]

/-- b[l:]: its value, whatever the world, and its bytes. -/
theorem slice_from {w : World} {a : Option Addr} {n c l : Nat} {bs : List UInt8} (hb : Bytes w (.slice a n c) bs) (h1 : l ≤ n) : ∃ sa sc, Bytes w (.slice sa (n - l) sc) (bs.drop l) ∧ (∀ W : World, (Instr.slice 49 (.slice a n c) (some (.int .i64 (l : Nat))) none none).run Try.prog W = .ok (.slice sa (n - l) sc) W) ∧ (∀ W : World, (Instr.sliceAt 49 (.slice a n c) (some (.int .i64 (l : Nat))) none none).run Try.prog W = .ok (.slice sa (n - l) sc) W) := by
  obtain ⟨hl, hnc⟩ := bytes_len hb
  obtain ⟨sa, sc, B, q, _, _⟩ := slice_mid (l := l) (h := n) hb h1 (Nat.le_refl _)
  have hu : Try.prog.underlying 49 = some (.slice 5) := Try.underlying49
  have hel : Try.prog.elem 49 = 5 := by unfold Program.elem; rw [hu]
  have hu' : Try.prog.underlying 49 = some (.slice (Try.prog.elem 49)) := by rw [hel]; exact hu
  have hr : ∀ W : World, (Instr.slice 49 (.slice a n c) (some (.int .i64 (l : Nat))) none none).run Try.prog W = .ok (.slice sa (n - l) sc) W := fun W => by
    have e1 := run_slice_l W 49 a n c hu' .i64 l (by omega) (by omega)
    have e2 := run_slice_lh W 49 a n c hu' .i64 .i64 l n (by omega) (by omega) (by omega)
    rw [← q W, e1, e2]
    rfl
  refine ⟨sa, sc, ?_, hr, fun W => by rw [run_sliceAt_slice W _ _ _ _ _ hu']; exact hr W⟩
  rwa [List.take_of_length_le (by rw [List.length_drop]; omega)] at B
end Go.Proofs.Ytflfiobicapopaa

namespace Go.Proofs.Ytflfiobicapopaa
open Go.RowKit

/-- A struct in a cell and a word in a slot are handed back. -/
theorem results_ct {P : Program} {fn : Func} {p u : Tmp} {ty : TypeId} (h : fn.results = #[.cell p ty, .tmp u]) (tmps : Array Value) (w : World) (g : Nat) (t : TypeId) (cs : Array Value) (fr : Nat × Nat) (d : TypeDesc)
    (hp : tmps.getD p undef = .pointer (some ⟨g, 0, none⟩)) (hg : w.heap[g]? = some (.cells cs t fr))
    (hu : P.underlying ty = some d) (hd : (match d with | .struct _ | .array _ _ => true | _ => false) = true) (hi : (P.info? ty).map (·.size) = some cs.size) :
    (results fn tmps).run P w = .ok (.tuple #[.agg cs, tmps.getD u undef]) w := by
  have hp' : tmps[p]?.getD undef = .pointer (some ⟨g, 0, none⟩) := by simpa using hp
  simp only [results, h]
  simp [Result.andThen, hp', asAddr, run_loadVar_row w g t ty cs fr d hg hu hd hi]
theorem set3_heap {W : World} {g : Nat} {v0 v1 v2 : Value} {t : TypeId} (h : W.heap[g]? = some (.cells #[v0, v1, v2] t (0, 0))) (x y z : Value) : (((W.setCell ⟨g, 0, none⟩ x).setCell ⟨g, 1, none⟩ y).setCell ⟨g, 2, none⟩ z).heap[g]? = some (.cells #[x, y, z] t (0, 0)) := by
  rw [heap_setCell_same _ _ _ _ _ _ (heap_setCell_same _ _ _ _ _ _ (heap_setCell_same _ _ _ _ _ _ h))]; rfl
theorem set3_below {w W : World} {g : Nat} (h : Below w.heap.size w W) (hg : w.heap.size ≤ g) (x y z : Value) : Below w.heap.size w (((W.setCell ⟨g, 0, none⟩ x).setCell ⟨g, 1, none⟩ y).setCell ⟨g, 2, none⟩ z) := ((h.setCell (p := ⟨g, 0, none⟩) hg x).setCell (p := ⟨g, 1, none⟩) hg y).setCell (p := ⟨g, 2, none⟩) hg z

theorem readH_no {b : List UInt8} (h : isHead b = false) : readH b = ⟨0, 0, 0⟩ := if_neg (by rw [h]; decide)
theorem readH_is {b : List UInt8} (h : isHead b = true) : readH b = headOf b := if_pos h

theorem all_step {b : List UInt8} {j : Nat} (h1 : 17 ≤ j) (h2 : j < b.length) : ((b.drop 17).take (j + 1 - 17)).all (· == 0) = (((b.drop 17).take (j - 17)).all (· == 0) && (b.getD j 0 == 0)) := by
  have hl : j - 17 < (b.drop 17).length := by rw [List.length_drop]; omega
  rw [show j + 1 - 17 = (j - 17) + 1 by omega, List.take_succ_eq_append_getElem hl, List.all_append]
  congr 1
  have e : (b.drop 17)[j - 17] = b.getD j 0 := by
    rw [List.getElem_drop, List.getD_eq_getElem?_getD]
    have e2 : b[j]? = some (b[17 + (j - 17)]'(by omega)) := by rw [List.getElem?_eq_some_iff]; exact ⟨h2, by congr 1; omega⟩
    rw [e2]
    rfl
  simp [e]
theorem all7 {l : List UInt8} (h : l.length = 7) : l.all (· == 0) = (l == [0, 0, 0, 0, 0, 0, 0]) := by
  rw [Bool.eq_iff_iff, List.all_eq_true, beq_iff_eq, show ([0, 0, 0, 0, 0, 0, 0] : List UInt8) = List.replicate 7 0 from rfl, List.eq_replicate_iff]
  simp [h]


end Go.Proofs.Ytflfiobicapopaa

namespace Go.Proofs.Ytflfiobicapopaa
open Go.RowKit

/-- Which of the two, as the program goes. -/
theorem pickH_eq (zero one : List UInt8) (x y : Bool) (hx : x = (isHead zero && (readH zero).s % 2 == 0)) (hy : y = (isHead one && (readH one).s % 2 == 1)) :
    pickH zero one = if (x && y && decide ((readH one).s > (readH zero).s)) || (y && !x) then some (readH one) else if x then some (readH zero) else none := by
  subst hx hy
  unfold pickH
  cases h0 : isHead zero <;> cases h1 : isHead one <;> simp [h0, h1, readH]
/-- What Pick answers. -/
def pickV (zero one : List UInt8) : HeadD := (pickH zero one).getD ⟨0, 0, 0⟩


end Go.Proofs.Ytflfiobicapopaa

namespace Go.Proofs.Ytflfiobicapopaa
open Go.RowKit

set_option maxHeartbeats 400000 in
theorem low_same (u1 u2 : Value) (b1 b2 : List UInt8) (w : World) (h1 : Bytes w u1 b1) (h2 : Bytes w u2 b2) : Calls Try.prog 28 #[u1, u2] w fun e w' => e = .returned (.bool (decide (b1 = b2))) ∧ w' = w := by
  have c1 := run_convert_bytes (P := Try.prog) w 49 9 5 Try.underlying49 Try.underlying5 Try.underlying9 u1 b1 h1
  have c2 := run_convert_bytes (P := Try.prog) w 49 9 5 Try.underlying49 Try.underlying5 Try.underlying9 u2 b2 h2
  have e0 : ((⟨b1.toArray⟩ : ByteArray).toList == (⟨b2.toArray⟩ : ByteArray).toList) = decide (b1 = b2) := by
    rw [ByteArray.toList_eq, ByteArray.toList_eq, Bool.eq_iff_iff]; simp
  have HE : Hid (((⟨b1.toArray⟩ : ByteArray).toList == (⟨b2.toArray⟩ : ByteArray).toList) = decide (b1 = b2)) := e0
  clear e0 h1 h2
  generalize (⟨b1.toArray⟩ : ByteArray) = s1 at *
  generalize (⟨b2.toArray⟩ : ByteArray) = s2 at *
  go_enter Try.func28, Try.ntmps28
  go_wp2
  go_ret
  exact ⟨ret_bool HE.out, rfl⟩

end Go.Proofs.Ytflfiobicapopaa

namespace Go.Proofs.Ytflfiobicapopaa
open Go.RowKit

/-- A world in which all that was there in w0 is as it was. -/
def Later (w0 : World) := { W : World // Below w0.heap.size w0 W }
/-- The class of these worlds. -/
def IsLater (w0 : World) : World → Prop := fun W => ∃ x : Later w0, W = x.1
theorem Later.cell {w0 : World} {p : Addr} {v : Value} (h : w0.cell? p = some v) (x : Later w0) : x.1.cell? p = some v := (x.2.cell (World.block_lt_of_cell? _ _ h)).trans h
theorem Later.bytes {w0 : World} {u : Value} {bs : List UInt8} (h : Bytes w0 u bs) (x : Later w0) : Bytes x.1 u bs := h.kept fun k _ hk => x.2.block k hk
theorem Later.then {w0 : World} (x : Later w0) {W : World} (hb : Below x.1.heap.size x.1 W) : ∃ y : Later w0, W = y.1 := ⟨⟨W, x.2.trans (hb.mono x.2.size)⟩, rfl⟩
theorem Later.same {w0 : World} (x : Later w0) {W : World} (e : W = x.1) : ∃ y : Later w0, W = y.1 := ⟨x, e⟩
theorem wp_region_later {id : Nat} {Q : Exit → Act → World → Prop} {a : Act} {w : World} {l : List Oper} (hB : Region.lexB .any l.toArray = true)
    (h : wpQuiet Try.prog l.toArray (fun W => ∃ x : Later w, W = x.1) (fun a' => ∀ w', (∃ x : Later w, w' = x.1) → Q .normal a' w') l a) : (Code.region id l.toArray true).wp Try.prog Q a w :=
  wp_region_quiet (C := fun W => ∃ x : Later w, W = x.1) (by kernel_rfl) hB ⟨⟨_, (Below.refl _ w).drew⟩, rfl⟩ (by simpa using h)
end Go.Proofs.Ytflfiobicapopaa

namespace Go.Proofs.Ytflfiobicapopaa
open Go.RowKit

/-- Right, Bytes, Read, Pick. -/
structure HeadPure : Prop where
  right : ∀ (s e l : Nat) (w : World), (HeadD.mk s e l).fits → Calls Try.prog 91 #[.agg #[.int .u64 ((s : Nat) : Int), .int .u64 ((e : Nat) : Int), .int .u8 ((l : Nat) : Int)]] w fun e' w' => e' = .returned (.bool (HeadD.mk s e l).right) ∧ Below w.heap.size w w'
  bytes : ∀ (s e l : Nat) (w : World), (HeadD.mk s e l).fits → Calls Try.prog 85 #[.agg #[.int .u64 ((s : Nat) : Int), .int .u64 ((e : Nat) : Int), .int .u8 ((l : Nat) : Int)]] w fun e' w' => ∃ v, e' = .returned (.tuple #[v, .int .i64 (hbErr ⟨s, e, l⟩)]) ∧ Bytes w' v (hbOf ⟨s, e, l⟩) ∧ Below w.heap.size w w'
  read : ∀ (u : Value) (b : List UInt8) (w : World), Bytes w u b → Calls Try.prog 90 #[u] w fun e' w' => e' = .returned (.tuple #[(readH b).val, .bool (isHead b)]) ∧ Below w.heap.size w w'
  pick : ∀ (u v : Value) (zero one : List UInt8) (w : World), Bytes w u zero → Bytes w v one → Calls Try.prog 79 #[u, v] w fun e' w' => e' = .returned (.tuple #[(pickV zero one).val, .bool (pickH zero one).isSome]) ∧ Below w.heap.size w w'

/-- What is kept along a walk: rows of bytes, heads in blocks. -/
structure Kh (w W : World) (L : List (Value × List UInt8)) (M : List (Nat × Array Value)) : Prop where
  bb : Below w.heap.size w W
  byt : ∀ p ∈ L, Bytes W p.1 p.2
  ce : ∀ p ∈ M, W.heap[p.1]? = some (Obj.cells p.2 37 (0, 0))
theorem Kh.start (w : World) : Kh w w [] [] := ⟨Below.refl _ w, fun p hp => (by cases hp), fun p hp => (by cases hp)⟩
theorem Kh.later {w W W' : World} {L : List (Value × List UInt8)} {M : List (Nat × Array Value)} (h : Kh w W L M) (hb : Below W.heap.size W W') : Kh w W' L M :=
  ⟨h.bb.trans (hb.mono h.bb.size), fun p hp => (h.byt p hp).kept fun k _ hk => hb.block k hk, fun p hp => (hb.block _ (Array.getElem?_eq_some_iff.1 (h.ce p hp)).1).trans (h.ce p hp)⟩
theorem Kh.addB {w W : World} {L : List (Value × List UInt8)} {M : List (Nat × Array Value)} (h : Kh w W L M) {v : Value} {bs : List UInt8} (hv : Bytes W v bs) : Kh w W ((v, bs) :: L) M :=
  ⟨h.bb, fun p hp => (List.mem_cons.1 hp).elim (fun e => by rw [e]; exact hv) (h.byt p), h.ce⟩
theorem Kh.addC {w W : World} {L : List (Value × List UInt8)} {M : List (Nat × Array Value)} (h : Kh w W L M) {g : Nat} {cs : Array Value} (hv : W.heap[g]? = some (Obj.cells cs 37 (0, 0))) : Kh w W L ((g, cs) :: M) :=
  ⟨h.bb, h.byt, fun p hp => (List.mem_cons.1 hp).elim (fun e => by rw [e]; exact hv) (h.ce p)⟩
theorem Kh.newC {w W : World} {L : List (Value × List UInt8)} {M : List (Nat × Array Value)} (h : Kh w W L M) (cs : Array Value) : Kh w (W.alloc (.cells cs 37)) L ((W.heap.size, cs) :: M) :=
  (h.later ((Below.refl _ W).alloc (Nat.le_refl _) _)).addC (heap_alloc_new W _)
/-- The three cells of a head that is kept. -/
theorem Kh.three {w W : World} {L : List (Value × List UInt8)} {M : List (Nat × Array Value)} (h : Kh w W L M) {g : Nat} {x y z : Value} (hm : (g, #[x, y, z]) ∈ M) : W.cell? ⟨g, 0, none⟩ = some x ∧ W.cell? ⟨g, 1, none⟩ = some y ∧ W.cell? ⟨g, 2, none⟩ = some z :=
  ⟨cell_of_row _ _ 0 _ _ _ (h.ce _ hm), cell_of_row _ _ 1 _ _ _ (h.ce _ hm), cell_of_row _ _ 2 _ _ _ (h.ce _ hm)⟩

theorem hb_ok_iff {h : HeadD} : (hbErr h == 0) = h.right := by
  unfold hbErr
  cases h.right <;> rfl
theorem hbOf_len (h : HeadD) : (hbOf h).length = 32 ∨ (hbOf h).length = 0 := by
  unfold hbOf
  split
  · exact .inl h.bytes_len
  · exact .inr rfl
end Go.Proofs.Ytflfiobicapopaa

namespace Go.Proofs.Ytflfiobicapopaa
open Go.RowKit

/-- What a disk holds: of segment i the bytes x i, of which safe i are safe; of slot i what is safe (sf i), and what is shown (sh i). -/
structure AD where
  cap : Int
  x : Nat → List UInt8
  safe : Nat → Nat
  sf : Nat → List UInt8
  sh : Nat → List UInt8
  calls : Int
  part : Int
  dead : Bool

/-- The numbers fit. -/
structure AD.Ok (A : AD) : Prop where
  safe : ∀ i, i < 2 → A.safe i ≤ (A.x i).length
  room : ((A.x 0).length : Int) + (A.x 1).length ≤ A.cap
  cap : A.cap ≤ 1048576
  sf : ∀ i, i < 2 → (A.sf i).length = 32
  sh : ∀ i, i < 2 → (A.sh i).length = 32
  calls : -1 ≤ A.calls ∧ A.calls ≤ 9223372036854775807

/-- A function with another value at one place. -/
def upd {α : Type} (f : Nat → α) (i : Nat) (x : α) : Nat → α := fun j => if j = i then x else f j
theorem upd_same {α : Type} (f : Nat → α) (i : Nat) (x : α) : upd f i x i = x := if_pos rfl
theorem upd_other {α : Type} (f : Nat → α) {i j : Nat} (x : α) (h : j ≠ i) : upd f i x j = f j := if_neg h

/-- The disk at block p: it owns the blocks of D, among them p, and the rows of its segments, which are the slices v 0 and v 1. -/
structure DiskIs (w : World) (p : Nat) (D : Nat → Prop) (v : Nat → Value) (A : AD) : Prop where
  blk : ∃ cs, w.heap[p]? = some (.cells cs 79 (0, 0))
  self : w.cell? ⟨p, 0, none⟩ = some (.pointer (some ⟨p, 0, none⟩))
  cap : w.cell? ⟨p, 1, none⟩ = some (.int .i64 A.cap)
  dat : ∀ i, i < 2 → w.cell? ⟨p, 2 + 2 * i, none⟩ = some (v i)
  saf : ∀ i, i < 2 → w.cell? ⟨p, 3 + 2 * i, none⟩ = some (.int .i64 (A.safe i))
  slf : ∀ i, i < 2 → w.rangeAt p (6 + 64 * i) ((A.sf i).map bv)
  slh : ∀ i, i < 2 → w.rangeAt p (38 + 64 * i) ((A.sh i).map bv)
  calls : w.cell? ⟨p, 134, none⟩ = some (.int .i64 A.calls)
  part : w.cell? ⟨p, 135, none⟩ = some (.int .i64 A.part)
  dead : w.cell? ⟨p, 136, none⟩ = some (.bool A.dead)
  row : ∀ i, i < 2 → w.ownsRow 0 5 1 (v i) (A.x i).length ((A.x i).map bv)
  own : D p
  rowD : ∀ i k, i < 2 → (v i).ownBlock = some k → D k ∧ k ≠ p
  dis : ∀ k, (v 0).ownBlock = some k → (v 1).ownBlock ≠ some k
  lt : ∀ k, D k → k < w.heap.size
  ok : A.Ok

section
variable {w : World} {p : Nat} {D : Nat → Prop} {v : Nat → Value} {A : AD}

theorem DiskIs.frz (h : DiskIs w p D v A) (o : Nat) : w.frozen? ⟨p, o, none⟩ = false := by
  obtain ⟨cs, hc⟩ := h.blk
  exact frozen_of_row w p o cs _ hc

/-- Whatever leaves the blocks of D alone leaves the disk. -/
theorem DiskIs.kept {w' : World} (h : DiskIs w p D v A) (hs : w.heap.size ≤ w'.heap.size) (hk : ∀ k, D k → w'.heap[k]? = w.heap[k]?) : DiskIs w' p D v A := by
  have hc : ∀ o, w'.cell? ⟨p, o, none⟩ = w.cell? ⟨p, o, none⟩ := fun o => World.cell?_of_block (a := ⟨p, o, none⟩) (hk p h.own)
  have hr : ∀ o cs, w.rangeAt p o cs → w'.rangeAt p o cs := fun o cs hr j u hu => by rw [hc]; exact hr j u hu
  obtain ⟨cs, hb⟩ := h.blk
  refine ⟨⟨cs, by rw [hk p h.own]; exact hb⟩, by rw [hc]; exact h.self, by rw [hc]; exact h.cap, fun i hi => by rw [hc]; exact h.dat i hi, fun i hi => by rw [hc]; exact h.saf i hi, fun i hi => hr _ _ (h.slf i hi), fun i hi => hr _ _ (h.slh i hi),
    by rw [hc]; exact h.calls, by rw [hc]; exact h.part, by rw [hc]; exact h.dead, fun i hi => ?_, h.own, h.rowD, h.dis, fun k hd => Nat.lt_of_lt_of_le (h.lt k hd) hs, h.ok⟩
  have hrow := h.row i hi
  refine ⟨hrow.1, ?_⟩
  rcases hrow.2 with hn | ⟨g, cap, cur, hv, hb0, hg, rest⟩
  · exact .inl hn
  · refine .inr ⟨g, cap, cur, hv, hb0, ?_, rest⟩
    rw [hk g (h.rowD i g hi (by rw [hv]; rfl)).1]; exact hg

theorem DiskIs.alloc (h : DiskIs w p D v A) (o : Obj) : DiskIs (w.alloc o) p D v A :=
  h.kept (by simp) fun k hk => Below.heap_alloc _ _ _ (h.lt k hk)
theorem DiskIs.drew (h : DiskIs w p D v A) : DiskIs w.drew p D v A := h.kept (Nat.le_refl _) fun _ _ => rfl
theorem DiskIs.setOther (h : DiskIs w p D v A) {a : Addr} (ha : ¬ D a.block) (u : Value) : DiskIs (w.setCell a u) p D v A :=
  h.kept (by simp [World.setCell]) fun k hk => Below.heap_setCell _ _ _ _ (fun e => ha (e ▸ hk))

/-- The rows stand where only block p is written. -/
theorem DiskIs.row_set (h : DiskIs w p D v A) (o : Nat) (u : Value) (i : Nat) (hi : i < 2) : (w.setCell ⟨p, o, none⟩ u).ownsRow 0 5 1 (v i) (A.x i).length ((A.x i).map bv) := by
  have hrow := h.row i hi
  refine ⟨hrow.1, ?_⟩
  rcases hrow.2 with hn | ⟨g, cap, cur, hv, hb0, hg, rest⟩
  · exact .inl hn
  · refine .inr ⟨g, cap, cur, hv, hb0, ?_, rest⟩
    rw [Below.heap_setCell _ _ _ _ (h.rowD i g hi (by rw [hv]; rfl)).2]; exact hg

theorem cell_set_ne (w : World) (p a b : Nat) (u : Value) (hne : b ≠ a) : (w.setCell ⟨p, a, none⟩ u).cell? ⟨p, b, none⟩ = w.cell? ⟨p, b, none⟩ :=
  World.cell?_setCell_other _ _ _ _ (fun e => hne (by injection e with _ e2 _; exact e2.symm))

theorem range_set_ne {w : World} {p o : Nat} {cs : List Value} (h : w.rangeAt p o cs) (a : Nat) (u : Value) (hne : a < o ∨ o + cs.length ≤ a) : (w.setCell ⟨p, a, none⟩ u).rangeAt p o cs := fun j x hx => by
  have hj : j < cs.length := (List.getElem?_eq_some_iff.1 hx).1
  rw [cell_set_ne _ _ _ _ _ (by omega)]; exact h j x hx

theorem blk_set {w : World} {p : Nat} {t : TypeId} (h : ∃ cs, w.heap[p]? = some (.cells cs t (0, 0))) (a : Nat) (u : Value) : ∃ cs, (w.setCell ⟨p, a, none⟩ u).heap[p]? = some (.cells cs t (0, 0)) := by
  obtain ⟨cs, h⟩ := h
  exact ⟨_, heap_setCell_same w p a cs t u h⟩

theorem DiskIs.setDead (h : DiskIs w p D v A) (b : Bool) : DiskIs (w.setCell ⟨p, 136, none⟩ (.bool b)) p D v { A with dead := b } := by
  refine ⟨blk_set h.blk _ _, by rw [cell_set_ne _ _ _ _ _ (by omega)]; exact h.self, by rw [cell_set_ne _ _ _ _ _ (by omega)]; exact h.cap, fun i hi => by rw [cell_set_ne _ _ _ _ _ (by omega)]; exact h.dat i hi, fun i hi => by rw [cell_set_ne _ _ _ _ _ (by omega)]; exact h.saf i hi,
    fun i hi => range_set_ne (h.slf i hi) _ _ (by have := h.ok.sf i hi; simp only [List.length_map]; omega), fun i hi => range_set_ne (h.slh i hi) _ _ (by have := h.ok.sh i hi; simp only [List.length_map]; omega),
    by rw [cell_set_ne _ _ _ _ _ (by omega)]; exact h.calls, by rw [cell_set_ne _ _ _ _ _ (by omega)]; exact h.part, World.cell?_setCell_same _ _ _ h.dead, h.row_set _ _, h.own, h.rowD, h.dis, fun k hk => by simpa [World.setCell] using h.lt k hk, ⟨h.ok.safe, h.ok.room, h.ok.cap, h.ok.sf, h.ok.sh, h.ok.calls⟩⟩

theorem DiskIs.setCalls (h : DiskIs w p D v A) (n : Int) (hn : -1 ≤ n ∧ n ≤ 9223372036854775807) : DiskIs (w.setCell ⟨p, 134, none⟩ (.int .i64 n)) p D v { A with calls := n } := by
  refine ⟨blk_set h.blk _ _, by rw [cell_set_ne _ _ _ _ _ (by omega)]; exact h.self, by rw [cell_set_ne _ _ _ _ _ (by omega)]; exact h.cap, fun i hi => by rw [cell_set_ne _ _ _ _ _ (by omega)]; exact h.dat i hi, fun i hi => by rw [cell_set_ne _ _ _ _ _ (by omega)]; exact h.saf i hi,
    fun i hi => range_set_ne (h.slf i hi) _ _ (by have := h.ok.sf i hi; simp only [List.length_map]; omega), fun i hi => range_set_ne (h.slh i hi) _ _ (by have := h.ok.sh i hi; simp only [List.length_map]; omega),
    World.cell?_setCell_same _ _ _ h.calls, by rw [cell_set_ne _ _ _ _ _ (by omega)]; exact h.part, by rw [cell_set_ne _ _ _ _ _ (by omega)]; exact h.dead, h.row_set _ _, h.own, h.rowD, h.dis, fun k hk => by simpa [World.setCell] using h.lt k hk, ⟨h.ok.safe, h.ok.room, h.ok.cap, h.ok.sf, h.ok.sh, hn⟩⟩

theorem DiskIs.setPart (h : DiskIs w p D v A) (n : Int) : DiskIs (w.setCell ⟨p, 135, none⟩ (.int .i64 n)) p D v { A with part := n } := by
  refine ⟨blk_set h.blk _ _, by rw [cell_set_ne _ _ _ _ _ (by omega)]; exact h.self, by rw [cell_set_ne _ _ _ _ _ (by omega)]; exact h.cap, fun i hi => by rw [cell_set_ne _ _ _ _ _ (by omega)]; exact h.dat i hi, fun i hi => by rw [cell_set_ne _ _ _ _ _ (by omega)]; exact h.saf i hi,
    fun i hi => range_set_ne (h.slf i hi) _ _ (by have := h.ok.sf i hi; simp only [List.length_map]; omega), fun i hi => range_set_ne (h.slh i hi) _ _ (by have := h.ok.sh i hi; simp only [List.length_map]; omega),
    by rw [cell_set_ne _ _ _ _ _ (by omega)]; exact h.calls, World.cell?_setCell_same _ _ _ h.part, by rw [cell_set_ne _ _ _ _ _ (by omega)]; exact h.dead, h.row_set _ _, h.own, h.rowD, h.dis, fun k hk => by simpa [World.setCell] using h.lt k hk, ⟨h.ok.safe, h.ok.room, h.ok.cap, h.ok.sf, h.ok.sh, h.ok.calls⟩⟩

theorem DiskIs.setSafe (h : DiskIs w p D v A) (i : Nat) (hi : i < 2) (n : Nat) (hn : n ≤ (A.x i).length) : DiskIs (w.setCell ⟨p, 3 + 2 * i, none⟩ (.int .i64 n)) p D v { A with safe := upd A.safe i n } := by
  refine ⟨blk_set h.blk _ _, by rw [cell_set_ne _ _ _ _ _ (by omega)]; exact h.self, by rw [cell_set_ne _ _ _ _ _ (by omega)]; exact h.cap, fun j hj => by rw [cell_set_ne _ _ _ _ _ (by omega)]; exact h.dat j hj, fun j hj => ?_,
    fun j hj => range_set_ne (h.slf j hj) _ _ (by have := h.ok.sf j hj; simp only [List.length_map]; omega), fun j hj => range_set_ne (h.slh j hj) _ _ (by have := h.ok.sh j hj; simp only [List.length_map]; omega),
    by rw [cell_set_ne _ _ _ _ _ (by omega)]; exact h.calls, by rw [cell_set_ne _ _ _ _ _ (by omega)]; exact h.part, by rw [cell_set_ne _ _ _ _ _ (by omega)]; exact h.dead, h.row_set _ _, h.own, h.rowD, h.dis, fun k hk => by simpa [World.setCell] using h.lt k hk, ⟨fun j hj => ?_, h.ok.room, h.ok.cap, h.ok.sf, h.ok.sh, h.ok.calls⟩⟩
  · by_cases e : j = i
    · subst e; rw [World.cell?_setCell_same _ _ _ (h.saf j hj)]; simp [upd]
    · rw [cell_set_ne _ _ _ _ _ (by omega)]; simpa [upd, e] using h.saf j hj
  · by_cases e : j = i
    · subst e; simpa [upd] using hn
    · simpa [upd, e] using h.ok.safe j hj

theorem set_comm (w : World) (p a b : Nat) (x y : Value) (hne : a ≠ b) : (w.setCell ⟨p, a, none⟩ x).setCell ⟨p, b, none⟩ y = (w.setCell ⟨p, b, none⟩ y).setCell ⟨p, a, none⟩ x := by
  simp only [World.setCell]
  congr 1
  apply Array.ext_getElem?
  intro k
  simp only [Array.getElem?_modify]
  by_cases hk : p = k
  · subst hk
    simp only [if_true]
    cases w.heap[p]? with
    | none => rfl
    | some o =>
      cases o <;> simp
      rw [Array.setIfInBounds_comm _ _ hne]
  · simp [hk]

/-- A segment's slice is another one, over a row that is there: behind an append (in some world w1) or a cut (w1 = w). -/
theorem DiskIs.setDat (h : DiskIs w p D v A) {w1 : World} (i : Nat) (hi : i < 2) (hg : w.grownBy w1 (v i).ownBlock) (v' : Value) (xs : List UInt8) (hrow : w1.ownsRow 0 5 1 v' xs.length (xs.map bv))
    (hnew : v'.ownBlock = none ∨ v'.ownBlock = (v i).ownBlock ∨ ∃ k, v'.ownBlock = some k ∧ w.heap.size ≤ k) (hsafe : A.safe i ≤ xs.length) (hroom : (xs.length : Int) + (A.x (1 - i)).length ≤ A.cap) :
    DiskIs (w1.setCell ⟨p, 2 + 2 * i, none⟩ v') p (fun k => D k ∨ v'.ownBlock = some k) (upd v i v') { A with x := upd A.x i xs } := by
  have hnp : ∀ k, (v i).ownBlock = some k → k ≠ p := fun k hk => (h.rowD i k hi hk).2
  have hpl := h.lt p h.own
  have hbp : w1.heap[p]? = w.heap[p]? := hg.block p hpl (fun e => hnp p e.symm rfl)
  have hc : ∀ o, w1.cell? ⟨p, o, none⟩ = w.cell? ⟨p, o, none⟩ := fun o => World.cell?_of_block (a := ⟨p, o, none⟩) hbp
  have hr : ∀ o cs, w.rangeAt p o cs → w1.rangeAt p o cs := fun o cs hr j u hu => by rw [hc]; exact hr j u hu
  have hblk : ∃ cs, w1.heap[p]? = some (.cells cs 79 (0, 0)) := by rw [hbp]; exact h.blk
  have hvp : ∀ k, v'.ownBlock = some k → k ≠ p := fun k hk => by
    rcases hnew with hh | hh | ⟨k', hh, hle⟩
    · rw [hh] at hk; cases hk
    · rw [hh] at hk; exact hnp k hk
    · rw [hh] at hk; cases hk; omega
  have hv1 : ∀ k, v'.ownBlock = some k → ∀ j, j < 2 → j ≠ i → (v j).ownBlock ≠ some k := fun k hk j hj hji hjk => by
    rcases hnew with hh | hh | ⟨k', hh, hle⟩
    · rw [hh] at hk; cases hk
    · rw [hh] at hk
      rcases (show (i = 0 ∧ j = 1) ∨ (i = 1 ∧ j = 0) by omega) with ⟨rfl, rfl⟩ | ⟨rfl, rfl⟩
      · exact h.dis k hk hjk
      · exact h.dis k hjk hk
    · rw [hh] at hk; cases hk
      have := h.lt _ (h.rowD j _ hj hjk).1; omega
  refine ⟨blk_set hblk _ _, by rw [cell_set_ne _ _ _ _ _ (by omega), hc]; exact h.self, by rw [cell_set_ne _ _ _ _ _ (by omega), hc]; exact h.cap, fun j hj => ?_, fun j hj => by rw [cell_set_ne _ _ _ _ _ (by omega), hc]; exact h.saf j hj,
    fun j hj => range_set_ne (hr _ _ (h.slf j hj)) _ _ (by have := h.ok.sf j hj; simp only [List.length_map]; omega), fun j hj => range_set_ne (hr _ _ (h.slh j hj)) _ _ (by have := h.ok.sh j hj; simp only [List.length_map]; omega),
    by rw [cell_set_ne _ _ _ _ _ (by omega), hc]; exact h.calls, by rw [cell_set_ne _ _ _ _ _ (by omega), hc]; exact h.part, by rw [cell_set_ne _ _ _ _ _ (by omega), hc]; exact h.dead, fun j hj => ?_, .inl h.own, fun j k hj hk => ?_, fun k h0 h1 => ?_, fun k hk => ?_,
    ⟨fun j hj => ?_, ?_, h.ok.cap, h.ok.sf, h.ok.sh, h.ok.calls⟩⟩
  · by_cases e : j = i
    · subst e; rw [World.cell?_setCell_same _ _ _ ((hc _).trans (h.dat j hj))]; simp [upd]
    · rw [cell_set_ne _ _ _ _ _ (by omega), hc]; simpa [upd, e] using h.dat j hj
  · by_cases e : j = i
    · subst e
      simp only [upd_same]
      refine ⟨hrow.1, ?_⟩
      rcases hrow.2 with hn | ⟨g, cap, cur, hv, hb0, hg', rest⟩
      · exact .inl hn
      · refine .inr ⟨g, cap, cur, hv, hb0, ?_, rest⟩
        rw [Below.heap_setCell _ _ _ _ (hvp g (by rw [hv]; rfl))]; exact hg'
    · simp only [upd_other _ _ e]
      have hrow := h.row j hj
      refine ⟨hrow.1, ?_⟩
      rcases hrow.2 with hn | ⟨g, cap, cur, hv, hb0, hg', rest⟩
      · exact .inl hn
      · refine .inr ⟨g, cap, cur, hv, hb0, ?_, rest⟩
        have hgj : (v j).ownBlock = some g := by rw [hv]; rfl
        have hD := h.rowD j g hj hgj
        rw [Below.heap_setCell _ _ _ _ hD.2, hg.block g (h.lt g hD.1) (fun e' => ?_)]
        · exact hg'
        · rcases (show (i = 0 ∧ j = 1) ∨ (i = 1 ∧ j = 0) by omega) with ⟨rfl, rfl⟩ | ⟨rfl, rfl⟩
          · exact h.dis g e'.symm hgj
          · exact h.dis g hgj e'.symm
  · by_cases e : j = i
    · subst e; rw [upd_same] at hk; exact ⟨.inr hk, hvp k hk⟩
    · rw [upd_other _ _ e] at hk; exact ⟨.inl (h.rowD j k hj hk).1, (h.rowD j k hj hk).2⟩
  · rcases (show i = 0 ∨ i = 1 by omega) with rfl | rfl
    · rw [upd_same] at h0; rw [upd_other _ _ (by omega)] at h1; exact hv1 k h0 1 (by omega) (by omega) h1
    · rw [upd_same] at h1; rw [upd_other _ _ (by omega)] at h0; exact hv1 k h1 0 (by omega) (by omega) h0
  · have hsz := hg.size
    have : k < w1.heap.size := by
      rcases hk with hk | hk
      · exact Nat.lt_of_lt_of_le (h.lt k hk) hsz
      · exact (hrow.lt k hk).2
    simpa [World.setCell] using this
  · by_cases e : j = i
    · subst e; simpa [upd] using hsafe
    · simpa [upd, e] using h.ok.safe j hj
  · rcases (show i = 0 ∨ i = 1 by omega) with rfl | rfl
    · simpa [upd] using hroom
    · have : (xs.length : Int) + (A.x 0).length ≤ A.cap := hroom
      simp [upd]; omega

/-- Cut to its first n bytes. -/
theorem DiskIs.cutTo (h : DiskIs w p D v A) (i : Nat) (hi : i < 2) (n : Nat) (hn : n ≤ (A.x i).length) {a : Option Addr} {c : Nat} (hv : v i = .slice a (A.x i).length c) (s : Nat) (hs : s = min (A.safe i) n) :
    DiskIs ((w.setCell ⟨p, 2 + 2 * i, none⟩ (.slice a n c)).setCell ⟨p, 3 + 2 * i, none⟩ (.int .i64 s)) p D (upd v i (.slice a n c)) { A with x := upd A.x i ((A.x i).take n), safe := upd A.safe i (min (A.safe i) n) } := by
  subst hs
  rw [set_comm _ _ _ _ _ _ (by omega)]
  have h1 := h.setSafe i hi (min (A.safe i) n) (by omega)
  have hb : (Value.slice a n c).ownBlock = (v i).ownBlock := by rw [hv]; cases a <;> rfl
  have hrow0 := h1.row i hi
  have hlen : ((A.x i).take n).length = n := by rw [List.length_take]; omega
  have hrow : (w.setCell ⟨p, 3 + 2 * i, none⟩ (.int .i64 (min (A.safe i) n : Nat))).ownsRow 0 5 1 (.slice a n c) ((A.x i).take n).length (((A.x i).take n).map bv) := by
    refine ⟨by simp, ?_⟩
    rw [hlen]
    rcases hrow0.2 with ⟨hv', hn'⟩ | ⟨g, cap, cur, hv', hb0, hg, hle, hm, hsz, htk⟩
    · rw [hv] at hv'
      simp only [Value.slice.injEq] at hv'
      obtain ⟨rfl, h2, rfl⟩ := hv'
      have : n = 0 := by omega
      subst this
      exact .inl ⟨rfl, rfl⟩
    · rw [hv] at hv'
      simp only [Value.slice.injEq] at hv'
      obtain ⟨rfl, h2, rfl⟩ := hv'
      refine .inr ⟨g, c, cur, rfl, hb0, hg, Nat.le_trans hn hle, hm, hsz, ?_⟩
      simp only [Nat.mul_one] at htk ⊢
      rw [List.map_take, ← htk, List.take_take]
      congr 1
      show n = min n (A.x i).length
      omega
  have h2 := h1.setDat (w1 := w.setCell ⟨p, 3 + 2 * i, none⟩ (.int .i64 (min (A.safe i) n : Nat))) i hi (World.grownBy.refl _ _) (.slice a n c) ((A.x i).take n) hrow (.inr (.inl hb)) (by simp only [upd_same]; rw [hlen]; omega) (by
    have hr := h.ok.room
    rw [hlen]
    rcases (show i = 0 ∨ i = 1 by omega) with rfl | rfl
    · show (n : Int) + (A.x 1).length ≤ A.cap; omega
    · show (n : Int) + (A.x 0).length ≤ A.cap; omega)
  have hD : (fun k => D k ∨ (Value.slice a n c).ownBlock = some k) = D := by
    funext k
    refine propext ⟨fun hk => ?_, .inl⟩
    rcases hk with hk | hk
    · exact hk
    · rw [hb] at hk; exact (h.rowD i k hi hk).1
  rw [hD] at h2
  exact h2

/-- A disk's range of cells is written whole (a slot's bytes). -/
theorem cells_ne {w : World} {p o : Nat} (vs : List Value) (b : Nat) (hne : b < o ∨ o + vs.length ≤ b) : (w.setCells p o vs).cell? ⟨p, b, none⟩ = w.cell? ⟨p, b, none⟩ :=
  World.cell?_setCells_out p vs o w ⟨p, b, none⟩ (fun _ _ => hne)

theorem blk_setCells {t : TypeId} {p : Nat} : ∀ (vs : List Value) (o : Nat) (w : World), (∃ cs, w.heap[p]? = some (.cells cs t (0, 0))) → ∃ cs, (w.setCells p o vs).heap[p]? = some (.cells cs t (0, 0))
  | [], _, _, h => h
  | _ :: r, o, w, h => by rw [World.setCells]; exact blk_setCells r (o + 1) _ (blk_set h _ _)

theorem heap_setCells_ne {p k : Nat} (hk : k ≠ p) : ∀ (vs : List Value) (o : Nat) (w : World), (w.setCells p o vs).heap[k]? = w.heap[k]?
  | [], _, _ => rfl
  | _ :: r, o, w => by rw [World.setCells, heap_setCells_ne hk r (o + 1) _]; exact Below.heap_setCell _ _ _ _ hk

theorem size_setCells {p : Nat} : ∀ (vs : List Value) (o : Nat) (w : World), (w.setCells p o vs).heap.size = w.heap.size
  | [], _, _ => rfl
  | _ :: r, o, w => by rw [World.setCells, size_setCells r (o + 1) _]; simp [World.setCell]

theorem same_setCells {p : Nat} : ∀ (vs : List Value) (o : Nat) (w : World), (w.setCells p o vs).os = w.os ∧ (w.setCells p o vs).tape = w.tape ∧ (w.setCells p o vs).output = w.output
  | [], _, _ => ⟨rfl, rfl, rfl⟩
  | _ :: r, o, w => by rw [World.setCells]; obtain ⟨a, b, c⟩ := same_setCells (p := p) r (o + 1) (w.setCell ⟨p, o, none⟩ _); exact ⟨a, b, c⟩

theorem Step.setCells {D E : Nat → Prop} {a b : World} (h : Step D E a b) {p : Nat} (hp : E p) (o : Nat) (vs : List Value) : Step D E a (b.setCells p o vs) := by
  obtain ⟨s1, s2, s3⟩ := same_setCells (p := p) vs o b
  exact h.trans ⟨s1, s2, s3, by rw [size_setCells]; exact Nat.le_refl _, fun k _ hn => heap_setCells_ne (p := p) (k := k) (fun e => hn (by rw [e]; exact hp)) vs o b, fun _ h => .inl h⟩

theorem DiskIs.row_setCells (h : DiskIs w p D v A) (o : Nat) (vs : List Value) (i : Nat) (hi : i < 2) : (w.setCells p o vs).ownsRow 0 5 1 (v i) (A.x i).length ((A.x i).map bv) := by
  have hrow := h.row i hi
  refine ⟨hrow.1, ?_⟩
  rcases hrow.2 with hn | ⟨g, cap, cur, hv, hb0, hg, rest⟩
  · exact .inl hn
  · refine .inr ⟨g, cap, cur, hv, hb0, ?_, rest⟩
    rw [heap_setCells_ne (h.rowD i g hi (by rw [hv]; rfl)).2]; exact hg

theorem DiskIs.there (h : DiskIs w p D v A) {o n : Nat} (hs : ∀ j, j < n → (w.cell? ⟨p, o + j, none⟩).isSome = true) : w.there p o n := fun j hj => ⟨hs j hj, h.frz _⟩

/-- The first bytes of what a slot shows are others. -/
theorem DiskIs.setShown (h : DiskIs w p D v A) (i : Nat) (hi : i < 2) (bs : List UInt8) (hb : bs.length ≤ 32) :
    DiskIs (w.setCells p (38 + 64 * i) (bs.map bv)) p D v { A with sh := upd A.sh i (bs ++ (A.sh i).drop bs.length) } := by
  have hl : (bs.map bv).length = bs.length := by simp
  have h32 := h.ok.sh i hi
  have hth : w.there p (38 + 64 * i) (bs.map bv).length := h.there fun j hj => (h.slh i hi).isSome j (by simp only [List.length_map] at hj ⊢; omega)
  refine ⟨blk_setCells _ _ _ h.blk, by rw [cells_ne _ _ (by omega)]; exact h.self, by rw [cells_ne _ _ (by omega)]; exact h.cap, fun j hj => by rw [cells_ne _ _ (by omega)]; exact h.dat j hj, fun j hj => by rw [cells_ne _ _ (by omega)]; exact h.saf j hj,
    fun j hj => World.rangeAt_setCells_apart (h.slf j hj) _ _ _ (by have := h.ok.sf j hj; simp only [List.length_map]; omega), fun j hj => ?_,
    by rw [cells_ne _ _ (by omega)]; exact h.calls, by rw [cells_ne _ _ (by omega)]; exact h.part, by rw [cells_ne _ _ (by omega)]; exact h.dead, h.row_setCells _ _, h.own, h.rowD, h.dis, fun k hk => by rw [size_setCells]; exact h.lt k hk, ⟨h.ok.safe, h.ok.room, h.ok.cap, h.ok.sf, fun j hj => ?_, h.ok.calls⟩⟩
  · by_cases e : j = i
    · subst e
      intro k u hu
      simp only [upd_same, List.map_append] at hu
      by_cases hk : k < bs.length
      · rw [List.getElem?_append_left (by simpa using hk)] at hu
        exact World.rangeAt_setCells_same w p _ _ hth k u hu
      · rw [List.getElem?_append_right (by simp only [List.length_map]; omega)] at hu
        rw [cells_ne _ _ (by omega)]
        refine h.slh j hj k u ?_
        rw [← hu, List.map_drop, List.getElem?_drop]
        congr 1
        simp only [List.length_map]; omega
    · simp only [upd_other _ _ e]
      exact World.rangeAt_setCells_apart (h.slh j hj) _ _ _ (by have := h.ok.sh j hj; simp only [List.length_map]; omega)
  · by_cases e : j = i
    · subst e; simp only [upd_same, List.length_append, List.length_drop]; omega
    · simpa [upd, e] using h.ok.sh j hj

theorem DiskIs.setSafeSlot (h : DiskIs w p D v A) (i : Nat) (hi : i < 2) (bs : List UInt8) (hb : bs.length ≤ 32) :
    DiskIs (w.setCells p (6 + 64 * i) (bs.map bv)) p D v { A with sf := upd A.sf i (bs ++ (A.sf i).drop bs.length) } := by
  have hl : (bs.map bv).length = bs.length := by simp
  have h32 := h.ok.sf i hi
  have hth : w.there p (6 + 64 * i) (bs.map bv).length := h.there fun j hj => (h.slf i hi).isSome j (by simp only [List.length_map] at hj ⊢; omega)
  refine ⟨blk_setCells _ _ _ h.blk, by rw [cells_ne _ _ (by omega)]; exact h.self, by rw [cells_ne _ _ (by omega)]; exact h.cap, fun j hj => by rw [cells_ne _ _ (by omega)]; exact h.dat j hj, fun j hj => by rw [cells_ne _ _ (by omega)]; exact h.saf j hj,
    fun j hj => ?_, fun j hj => World.rangeAt_setCells_apart (h.slh j hj) _ _ _ (by have := h.ok.sh j hj; simp only [List.length_map]; omega),
    by rw [cells_ne _ _ (by omega)]; exact h.calls, by rw [cells_ne _ _ (by omega)]; exact h.part, by rw [cells_ne _ _ (by omega)]; exact h.dead, h.row_setCells _ _, h.own, h.rowD, h.dis, fun k hk => by rw [size_setCells]; exact h.lt k hk, ⟨h.ok.safe, h.ok.room, h.ok.cap, fun j hj => ?_, h.ok.sh, h.ok.calls⟩⟩
  · by_cases e : j = i
    · subst e
      intro k u hu
      simp only [upd_same, List.map_append] at hu
      by_cases hk : k < bs.length
      · rw [List.getElem?_append_left (by simpa using hk)] at hu
        exact World.rangeAt_setCells_same w p _ _ hth k u hu
      · rw [List.getElem?_append_right (by simp only [List.length_map]; omega)] at hu
        rw [cells_ne _ _ (by omega)]
        refine h.slf j hj k u ?_
        rw [← hu, List.map_drop, List.getElem?_drop]
        congr 1
        simp only [List.length_map]; omega
    · simp only [upd_other _ _ e]
      exact World.rangeAt_setCells_apart (h.slf j hj) _ _ _ (by have := h.ok.sf j hj; simp only [List.length_map]; omega)
  · by_cases e : j = i
    · subst e; simp only [upd_same, List.length_append, List.length_drop]; omega
    · simpa [upd, e] using h.ok.sf j hj

/-- The disk at p is as A says, and nothing else turned. -/
def Now (D : Nat → Prop) (p : Nat) (A : AD) (w w' : World) : Prop := ∃ D' v', DiskIs w' p D' v' A ∧ Step D D' w w'

end
end Go.Proofs.Ytflfiobicapopaa

namespace Go.Proofs.Ytflfiobicapopaa
open Go.RowKit

theorem has_info (t : TypeId) (h : (Try.prog.info? t).isSome = true) : ∃ j, Try.prog.info? t = some j := Option.isSome_iff_exists.1 h
theorem infoDisk : ∃ j, Try.prog.info? 79 = some j := has_info _ (by kernel_rfl)
set_option maxHeartbeats 400000 in
theorem isSegment_yes (a : Int) (w : World) (h0 : 0 ≤ a) (h2 : a < 2) : Calls Try.prog 57 #[.int .i64 a] w fun e w' => e = .returned (.bool true) ∧ w' = w := by
  go_enter Try.func57, Try.ntmps57
  go_wp2
  go_ret
  exact ⟨by simp, rfl⟩

set_option maxHeartbeats 400000 in
theorem isSegment_no (a : Int) (w : World) (h : a < 0 ∨ 2 ≤ a) : Calls Try.prog 57 #[.int .i64 a] w fun e w' => e = .returned (.bool false) ∧ w' = w := by
  rcases h with h | h
  · go_enter Try.func57, Try.ntmps57
    go_wp2
    go_ret
    exact ⟨rfl, rfl⟩
  · have h0 : 0 ≤ a := by omega
    go_enter Try.func57, Try.ntmps57
    go_wp2
    go_ret
    exact ⟨by simp [h], rfl⟩

set_option maxHeartbeats 400000 in
theorem between_any (a b : Int) (w : World) : Calls Try.prog 62 #[.int .i64 a, .int .i64 b] w fun e w' => e = .returned (.int .i64 (min (max a 0) b)) ∧ w' = w := by
  go_enter Try.func62, Try.ntmps62
  go_wp2
  all_goals
    go_ret
    exact ⟨ret_int (by omega), rfl⟩

section
variable {w : World} {p : Nat} {D : Nat → Prop} {v : Nat → Value} {A : AD}

set_option maxHeartbeats 400000 in
theorem made_yes (h : DiskIs w p D v A) : Calls Try.prog 47 #[.pointer (some ⟨p, 0, none⟩)] w fun e w' => e = .returned (.bool true) ∧ w' = w := by
  have hs := h.self
  clear h
  obtain ⟨j, hj⟩ := infoDisk
  have he := run_eql_ptr_same (P := Try.prog) w ⟨p, 0, none⟩ Try.underlying29 hj
  clear hj
  go_enter Try.func47, Try.ntmps47
  go_wp2
  go_ret
  exact ⟨rfl, rfl⟩

set_option maxHeartbeats 400000 in
theorem fault_alive (h : DiskIs w p D v A) (hd : A.dead = false) : Calls Try.prog 33 #[.pointer (some ⟨p, 0, none⟩)] w fun e w' => e = .returned (.int .i64 0) ∧ w' = w := by
  have hc := h.dead
  rw [hd] at hc
  go_enter Try.func33, Try.ntmps33
  go_wp2_with (go_at_call 47; refine (made_yes h).mono ?_; rintro e w' ⟨rfl, rfl⟩)
  go_ret
  exact ⟨rfl, rfl⟩

set_option maxHeartbeats 400000 in
theorem fault_dead (h : DiskIs w p D v A) (hd : A.dead = true) : Calls Try.prog 33 #[.pointer (some ⟨p, 0, none⟩)] w fun e w' => e = .returned (.int .i64 3) ∧ w' = w := by
  have hc := h.dead
  rw [hd] at hc
  go_enter Try.func33, Try.ntmps33
  go_wp2_with (go_at_call 47; refine (made_yes h).mono ?_; rintro e w' ⟨rfl, rfl⟩)
  go_ret
  exact ⟨rfl, rfl⟩

set_option maxHeartbeats 400000 in
theorem room_any (h : DiskIs w p D v A) : Calls Try.prog 58 #[.pointer (some ⟨p, 0, none⟩)] w fun e w' => e = .returned (.int .i64 (A.cap - (A.x 0).length - (A.x 1).length)) ∧ w' = w := by
  have hc := h.cap
  have hd0 := h.dat 0 (by omega)
  have hd1 := h.dat 1 (by omega)
  have hv0 : ∃ a n c, v 0 = .slice a n c ∧ n = (A.x 0).length := by
    rcases (h.row 0 (by omega)).2 with ⟨hv, hn⟩ | ⟨g, cap, cur, hv, _⟩
    · exact ⟨_, _, _, hv, hn.symm⟩
    · exact ⟨_, _, _, hv, rfl⟩
  have hv1 : ∃ a n c, v 1 = .slice a n c ∧ n = (A.x 1).length := by
    rcases (h.row 1 (by omega)).2 with ⟨hv, hn⟩ | ⟨g, cap, cur, hv, _⟩
    · exact ⟨_, _, _, hv, hn.symm⟩
    · exact ⟨_, _, _, hv, rfl⟩
  obtain ⟨a0, n0, c0, hv0, hn0⟩ := hv0
  obtain ⟨a1, n1, c1, hv1, hn1⟩ := hv1
  rw [hv0] at hd0
  rw [hv1] at hd1
  have hr := h.ok.room
  have hk := h.ok.cap
  rw [← hn0, ← hn1] at hr ⊢
  clear hv0 hv1 hn0 hn1 h
  simp only [Nat.mul_zero, Nat.mul_one, Nat.add_zero] at hd0 hd1
  go_enter Try.func58, Try.ntmps58
  go_wp2
  refine wp_loop_rounds 3 ?_
  rw [rounds_succ]; go_wp2
  rw [rounds_succ]; go_wp2
  rw [rounds_succ]; go_wp2
  go_ret
  exact ⟨ret_int (by omega), rfl⟩
end
end Go.Proofs.Ytflfiobicapopaa

namespace Go.Proofs.Ytflfiobicapopaa
open Go.RowKit

theorem run_equalIn_bytes_nil {P : Program} (w : World) (d : Nat) (t e : TypeId) (a : Option Addr) (n c n' c' : Nat) (h : P.underlying t = some (.slice e)) :
    (Op.equalIn (d + 1) t (.slice a n c) (.slice none n' c')).run P w = .ok a.isNone w := by
  cases a <;> simp [Op.equalIn, run_underlying h]

theorem run_eql_bytes_nil {P : Program} (w : World) (t e : TypeId) (a : Option Addr) (n c n' c' : Nat) (h : P.underlying t = some (.slice e)) :
    (binOp .eql t (.slice a n c) (.slice none n' c')).run P w = .ok (.bool a.isNone) w := by
  simp only [binOp]
  simp [Op.equal, Op.maxDepth, run_equalIn_bytes_nil w 9999 t e a n c n' c' h]

set_option maxHeartbeats 400000 in
theorem clone_any (u : Value) (bs : List UInt8) (w : World) (h : Bytes w u bs) (hl : bs.length ≤ 1048576) : Calls Try.prog 63 #[u] w fun e w' => ∃ r, e = .returned r ∧ Bytes w' r bs ∧ (∀ k, r.ownBlock = some k → w.heap.size ≤ k ∧ k < w'.heap.size) ∧ Below w.heap.size w w' := by
  have hnil := fun a l c => run_eql_bytes_nil (P := Try.prog) w 49 5 a l c 0 0 Try.underlying49
  rcases h with ⟨rfl, rfl⟩ | ⟨ad, c, rfl, h1, h2, hr⟩
  · go_enter Try.func63, Try.ntmps63
    go_wp2
    go_ret
    exact ⟨.slice none 0 0, rfl, .inl ⟨rfl, rfl⟩, fun k hk => (nomatch hk), Below.refl _ _⟩
  · obtain ⟨i, hi, hz0, hz1, hz2⟩ := infoByte
    have hown : (w.alloc (.cells #[] 5)).ownsRow 0 5 1 (.slice (some ⟨w.heap.size, 0, none⟩) 0 0) ([] : List UInt8).length (([] : List UInt8).map bv) :=
      ⟨by simp, .inr ⟨w.heap.size, 0, #[], rfl, Nat.zero_le _, heap_alloc_new w _, Nat.le_refl _, by decide, rfl, by simp⟩⟩
    have hb : Bytes (w.alloc (.cells #[] 5)) (.slice (some ad) bs.length c) bs := Bytes.alloc (.inr ⟨ad, c, rfl, h1, h2, hr⟩) _
    have HO := hide hown
    have HB := hide hb
    clear hown hb hr
    go_enter Try.func63, Try.ntmps63
    go_wp2_with (at_builtin; refine wpList_append_bytes _ rfl _ _ 49 rfl 5 i (.int .u8 0) Try.underlying49 hi hz0 hz1 hz2 rfl _ [] rfl (unhide HO) _ bs rfl (unhide HB) (by simp; omega) ?_)
    rintro v' w' r1 r2 r3
    go_wp2
    go_ret
    refine ⟨v', rfl, bytes_of_owns r1, fun k hk => ⟨?_, (r1.lt k hk).2⟩, ?_⟩
    · rcases r3 with r3 | ⟨k', r3, hle⟩
      · rw [r3] at hk; simp [Value.ownBlock] at hk; omega
      · rw [r3] at hk; cases hk; omega
    · exact ((Below.refl _ _).alloc (Nat.le_refl _) _).grown r2 (by simp) (fun k hk => by simp [Value.ownBlock] at hk; omega)

section
variable {w : World} {p : Nat} {D : Nat → Prop} {v : Nat → Value} {A : AD}

/-- The slice of a segment, written out. -/
theorem DiskIs.slice (h : DiskIs w p D v A) (i : Nat) (hi : i < 2) : ∃ a c, v i = .slice a (A.x i).length c ∧ (A.x i).length ≤ c := by
  rcases (h.row i hi).2 with ⟨hv, hn⟩ | ⟨g, cap, cur, hv, _, _, hle, _⟩
  · exact ⟨none, 0, by rw [hv, hn], by omega⟩
  · exact ⟨_, cap, hv, hle⟩

set_option maxHeartbeats 400000 in
theorem segSync_any (h : DiskIs w p D v A) (i : Nat) (hi : i < 2) : Calls Try.prog 73 #[.pointer (some ⟨p, 2 + 2 * i, none⟩)] w fun e w' => e = .returned (.tuple #[]) ∧ w' = w.setCell ⟨p, 3 + 2 * i, none⟩ (.int .i64 (A.x i).length) := by
  have hd := h.dat i hi
  obtain ⟨a, c, hv, _⟩ := h.slice i hi
  rw [hv] at hd
  have hs := h.saf i hi
  have hf := h.frz (3 + 2 * i)
  have e1 : 2 + 2 * i + 1 = 3 + 2 * i := by omega
  clear h hv
  go_enter Try.func73, Try.ntmps73
  go_wp2
  go_end0
  exact ⟨rfl, rfl⟩

set_option maxHeartbeats 400000 in
theorem grow_any (h : DiskIs w p D v A) (i : Nat) (hi : i < 2) (u : Value) (bs : List UInt8) (hu : Bytes w u bs) (hroom : ((A.x i).length : Int) + bs.length + (A.x (1 - i)).length ≤ A.cap) :
    Calls Try.prog 61 #[.pointer (some ⟨p, 2 + 2 * i, none⟩), u] w fun e w' => e = .returned (.tuple #[]) ∧ Now D p { A with x := upd A.x i (A.x i ++ bs) } w w' := by
  have hd := h.dat i hi
  have hf := h.frz (2 + 2 * i)
  have hcap := h.ok.cap
  obtain ⟨j, hj, hz0, hz1, hz2⟩ := infoByte
  have HO := hide (h.row i hi)
  have HU := hide hu
  have HD := hide h
  clear h hu
  go_enter Try.func61, Try.ntmps61
  go_wp2_with (at_builtin; refine wpList_append_bytes _ rfl _ _ 49 rfl 5 j (.int .u8 0) Try.underlying49 hj hz0 hz1 hz2 rfl _ (A.x i) rfl (unhide HO) _ bs rfl (unhide HU) (by omega) ?_)
  rintro v' w' r1 r2 r3
  rw [← List.length_append, ← List.map_append] at r1
  have hnp : (v i).ownBlock ≠ some p := fun e => ((unhide HD).rowD i p hi e).2 rfl
  have hbp : w'.heap[p]? = w.heap[p]? := r2.block p ((unhide HD).lt p (unhide HD).own) (fun e => hnp e.symm)
  have hd' : w'.cell? ⟨p, 2 + 2 * i, none⟩ = some (v i) := (World.cell?_of_block (a := ⟨p, 2 + 2 * i, none⟩) hbp).trans hd
  have hf' : w'.frozen? ⟨p, 2 + 2 * i, none⟩ = false := (World.frozen?_of_block (a := ⟨p, 2 + 2 * i, none⟩) hbp).trans hf
  have HF := hide (unhide HD |>.setDat i hi r2 v' (A.x i ++ bs) r1 (r3.imp id id |> .inr) (by simp; have := (unhide HD).ok.safe i hi; omega) (by simp; omega))
  have HS : Hid (Step D (fun k => D k ∨ v'.ownBlock = some k) w (w'.setCell ⟨p, 2 + 2 * i, none⟩ v')) := by
    have h0 : Step D D w w' := ⟨r2.os, r2.tape, r2.output, r2.size, fun k hk hn => r2.block k hk (fun e => hn ((unhide HD).rowD i k hi e.symm).1), fun _ h => .inl h⟩
    refine ((h0.setCell (p := ⟨p, 2 + 2 * i, none⟩) (unhide HD).own v').owns fun k hk => ?_)
    rcases hk with hk | hk
    · exact .inl hk
    · rcases r3 with r3 | ⟨k', r3, hle⟩
      · rw [r3] at hk; exact .inl ((unhide HD).rowD i k hi hk).1
      · rw [r3] at hk; cases hk; exact .inr hle
  obtain ⟨a', n', c', hv'⟩ : ∃ a' n' c', v' = .slice a' n' c' := by
    rcases r1.2 with ⟨h, _⟩ | ⟨_, _, _, h, _⟩
    · exact ⟨_, _, _, h⟩
    · exact ⟨_, _, _, h⟩
  subst hv'
  clear r1 r2 r3 hbp hnp HO HU hd hf
  go_wp2
  go_end0
  exact ⟨rfl, _, _, unhide HF, unhide HS⟩

set_option maxHeartbeats 400000 in
theorem cut_any (h : DiskIs w p D v A) (i : Nat) (hi : i < 2) (m : Int) (n : Nat) (hm : m = n) (hn : n ≤ (A.x i).length) :
    Calls Try.prog 76 #[.pointer (some ⟨p, 2 + 2 * i, none⟩), .int .i64 m] w fun e w' => e = .returned (.tuple #[]) ∧ Now D p { A with x := upd A.x i ((A.x i).take n), safe := upd A.safe i (min (A.safe i) n) } w w' := by
  have hd := h.dat i hi
  have hs := h.saf i hi
  have hf := h.frz (2 + 2 * i)
  have hf2 := h.frz (3 + 2 * i)
  have e1 : 2 + 2 * i + 1 = 3 + 2 * i := by omega
  obtain ⟨a, c, hv, hle⟩ := h.slice i hi
  rw [hv] at hd
  have HV := hide hv
  have HD := hide h
  clear h hv
  subst hm
  go_enter Try.func76, Try.ntmps76
  go_wp2
  all_goals
    go_end0
    refine ⟨rfl, D, _, (unhide HD).cutTo i hi n hn (unhide HV) _ (by omega), ?_⟩
    exact ((Step.refl _ _).setCell (p := ⟨p, 2 + 2 * i, none⟩) (unhide HD).own _).setCell (p := ⟨p, 3 + 2 * i, none⟩) (unhide HD).own _
end
end Go.Proofs.Ytflfiobicapopaa

namespace Go.Proofs.Ytflfiobicapopaa
open Go.RowKit

section
variable {w : World} {p : Nat} {D : Nat → Prop} {v : Nat → Value} {A : AD}

theorem DiskIs.drewN (h : DiskIs w p D v A) : ∀ n, DiskIs (w.drewN n) p D v A := fun _ => h.kept (Nat.le_refl _) fun _ _ => rfl
theorem Step.drewN {D E : Nat → Prop} {a b : World} (h : Step D E a b) (n : Nat) : Step D E a (b.drewN n) := ⟨h.os, h.tape, h.output, h.size, h.block, h.own⟩
theorem Now.after {w w1 w' : World} {D : Nat → Prop} (h : Step D D w w1) (k : Now D p A w1 w') : Now D p A w w' := by
  obtain ⟨D', v', k1, k2⟩ := k
  exact ⟨D', v', k1, h.trans k2⟩

/-- So many of n: none below 0, all above. -/
def keepN (k : Int) (n : Nat) : Nat := (min (max k 0) n).toNat
theorem keepN_eq (k : Int) (n : Nat) : min (max k 0) (n : Int) = keepN k n := by unfold keepN; omega
theorem keepN_le (k : Int) (n : Nat) : keepN k n ≤ n := by unfold keepN; omega

/-- Behind a crash of segment i that keeps k of what is loose. -/
def AD.crashSeg (A : AD) (i : Nat) (k : Int) : AD :=
  { A with x := upd A.x i ((A.x i).take (A.safe i + keepN k ((A.x i).length - A.safe i))), safe := upd A.safe i (A.safe i + keepN k ((A.x i).length - A.safe i)) }

theorem upd_upd {α : Type} (f : Nat → α) (i : Nat) (x y : α) : upd (upd f i x) i y = upd f i y := by
  funext j; unfold upd; split <;> rfl

set_option maxHeartbeats 400000 in
theorem segCrash_any (h : DiskIs w p D v A) (i : Nat) (hi : i < 2) (k : Int) :
    Calls Try.prog 48 #[.pointer (some ⟨p, 2 + 2 * i, none⟩), .int .i64 k] w fun e w' => e = .returned (.tuple #[]) ∧ Now D p (A.crashSeg i k) w w' := by
  have hd := h.dat i hi
  obtain ⟨a, c, hv, hle⟩ := h.slice i hi
  rw [hv] at hd
  have hs := h.saf i hi
  have hsl := h.ok.safe i hi
  have hx : ((A.x i).length : Int) ≤ 1048576 := by
    have := h.ok.room; have := h.ok.cap
    rcases (show i = 0 ∨ i = 1 by omega) with rfl | rfl <;> omega
  have e1 : 2 + 2 * i + 1 = 3 + 2 * i := by omega
  have hkl := keepN_le k ((A.x i).length - A.safe i)
  have HK : Hid (min (max k 0) ((A.x i).length - A.safe i : Int) = keepN k ((A.x i).length - A.safe i)) := by
    have := keepN_eq k ((A.x i).length - A.safe i)
    have e : (((A.x i).length - A.safe i : Nat) : Int) = (A.x i).length - A.safe i := by omega
    rw [e] at this
    exact this
  have HD := hide h
  unfold AD.crashSeg
  generalize keepN k ((A.x i).length - A.safe i) = t at *
  clear h hv
  have hwr : IntKind.i64.wrap ((A.safe i : Int) + t) = (A.safe i : Int) + t := by rw [IntKind.wrap_i64]; omega
  go_enter Try.func48, Try.ntmps48
  go_wp2
  go_quiet (fail)
  go_wp2
  go_region_with (first | (go_at_call 62; refine (between_any _ _ _).mono ?_; rintro e w' ⟨rfl, rfl⟩; rw [unhide HK]) | (go_at_call 76; refine (cut_any ((unhide HD).drewN _) i hi _ (A.safe i + t) (by first | omega | (rw [hwr]; omega)) (by omega)).mono ?_; rintro e w' ⟨rfl, hN⟩))
  all_goals
    obtain ⟨D1, v1, hD1, hS1⟩ := hN
    go_wp2_with (go_at_call 73; refine (segSync_any hD1 i hi).mono ?_; rintro e w2 ⟨rfl, rfl⟩)
    go_end0
    have h2 := hD1.setSafe i hi (A.safe i + t) (by simp only [upd_same, List.length_take]; omega)
    simp only [upd_upd] at h2
    have e2 : (((upd A.x i ((A.x i).take (A.safe i + t))) i).length : Int) = ((A.safe i + t : Nat) : Int) := by simp only [upd_same, List.length_take]; omega
    refine ⟨rfl, D1, v1, ?_, ?_⟩
    · simp only [e2]; exact h2
    · exact (((Step.refl D w).drewN _).trans hS1).setCell (p := ⟨p, 3 + 2 * i, none⟩) hD1.own _
end
end Go.Proofs.Ytflfiobicapopaa
