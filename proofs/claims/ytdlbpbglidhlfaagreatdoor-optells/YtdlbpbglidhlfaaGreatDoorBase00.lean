/- Mem, Gen, WireMath, ValMath, ValReads: our own definitions and contracts; no statement of the seat is proved here. -/
import Derived.Test.YtdlbpbglidhlfaaGreatDoorProg
import Derived.WalkKit
import Derived.WalkSpells
import Derived.WalkLawsBesides
import Derived.LaidEqlPtr
import Derived.Deep.MidRow
import Derived.Deep.RegionWith
import Derived.Deep.QuietTactic
import Derived.BigQuiet
import Derived.BigRegion
import Derived.LoopN
import Derived.Deep.DeepCutAuto
import Derived.Deep.RegionHeld3
import Derived.Laws.CopyOwn
import Derived.Laws.EntriesVeiled
import Derived.Laws.BitsAllLaws
namespace Go.Proofs.YtdlbpbglidhlfaaGreatDoor
open Go.RowKit

/-- A byte as a cell. -/
def bv (b : UInt8) : Value := .int .u8 b.toNat

theorem bv_one (bs : List UInt8) : ∀ u ∈ bs.map bv, u.oneCell' = true := by
  intro u hu
  obtain ⟨_, _, rfl⟩ := List.mem_map.1 hu
  rfl

/-- The slice value u reads as the bytes bs. -/
def Bytes (w : World) (u : Value) (bs : List UInt8) : Prop :=
  (u = .slice none 0 0 ∧ bs = []) ∨ ∃ a c, u = .slice (some a) bs.length c ∧ bs.length ≤ c ∧ c ≤ maxLen ∧ ∀ j x, (bs.map bv)[j]? = some x → w.cell? (a.add j) = some x

theorem add_block (a : Addr) (j : Nat) : (a.add j).block = a.block := by unfold Addr.add; split <;> rfl

/-- Blocks outside D that were there are as they were; what is owned behind is of D, or new. -/
structure Step (D D' : Nat → Prop) (w w' : World) : Prop where
  os : w'.os = w.os
  tape : w'.tape = w.tape
  output : w'.output = w.output
  size : w.heap.size ≤ w'.heap.size
  block : ∀ k, k < w.heap.size → ¬ D k → w'.heap[k]? = w.heap[k]?
  own : ∀ k, D' k → D k ∨ w.heap.size ≤ k

theorem Step.refl (D : Nat → Prop) (w : World) : Step D D w w := ⟨rfl, rfl, rfl, Nat.le_refl _, fun _ _ _ => rfl, fun _ h => .inl h⟩

theorem Step.trans {D E F : Nat → Prop} {a b c : World} (h : Step D E a b) (k : Step E F b c) : Step D F a c := by
  refine ⟨k.os.trans h.os, k.tape.trans h.tape, k.output.trans h.output, Nat.le_trans h.size k.size, fun i hi hn => ?_, fun i hi => ?_⟩
  · rw [k.block i (Nat.lt_of_lt_of_le hi h.size) (fun he => ?_), h.block i hi hn]
    rcases h.own i he with h1 | h1
    · exact hn h1
    · omega
  · rcases k.own i hi with h1 | h1
    · exact h.own i h1
    · exact .inr (Nat.le_trans h.size h1)

theorem Step.drew {D E : Nat → Prop} {a b : World} (h : Step D E a b) : Step D E a b.drew := ⟨h.os, h.tape, h.output, h.size, h.block, h.own⟩

theorem Step.drewL {D E : Nat → Prop} {a b : World} (h : Step D E a.drew b) : Step D E a b := ⟨h.os, h.tape, h.output, h.size, h.block, h.own⟩

theorem Step.alloc {D E : Nat → Prop} {a b : World} (h : Step D E a b) (o : Obj) : Step D E a (b.alloc o) :=
  h.trans ⟨rfl, rfl, rfl, by simp, fun k hk _ => Below.heap_alloc _ _ _ hk, fun _ h => .inl h⟩

theorem Step.setCell {D E : Nat → Prop} {a b : World} (h : Step D E a b) {p : Addr} (hp : E p.block) (u : Value) : Step D E a (b.setCell p u) :=
  h.trans ⟨rfl, rfl, rfl, by simp [World.setCell], fun k _ hn => Below.heap_setCell _ _ _ _ (fun e => hn (e ▸ hp)), fun _ h => .inl h⟩

/-- A store into a block that is new since. -/
theorem Step.setNew {D E : Nat → Prop} {a b : World} (h : Step D E a b) {p : Addr} (hp : a.heap.size ≤ p.block) (u : Value) : Step D E a (b.setCell p u) := by
  refine ⟨h.os, h.tape, h.output, by simpa [World.setCell] using h.size, fun k hk hn => ?_, h.own⟩
  rw [Below.heap_setCell _ _ _ _ (by omega)]
  exact h.block k hk hn

/-- What is owned may be forgotten in part, and the new blocks may be added. -/
theorem Step.owns {D E E' : Nat → Prop} {a b : World} (h : Step D E a b) (hE : ∀ k, E' k → D k ∨ a.heap.size ≤ k) : Step D E' a b := ⟨h.os, h.tape, h.output, h.size, h.block, hE⟩

/-- More may turn. -/
theorem Step.wider {D D' E : Nat → Prop} {a b : World} (h : Step D E a b) (hD : ∀ k, D k → D' k) : Step D' E a b :=
  ⟨h.os, h.tape, h.output, h.size, fun k hk hn => h.block k hk (fun x => hn (hD k x)), fun k hk => (h.own k hk).imp (hD k) id⟩

theorem Step.below {D E : Nat → Prop} {a b : World} (h : Step D E a b) {B : Nat} (hB : B ≤ a.heap.size) (hD : ∀ k, D k → B ≤ k) : Below B a b :=
  ⟨h.os, h.tape, h.output, h.size, fun k hk => h.block k (by omega) (fun hd => by have := hD k hd; omega)⟩

theorem Step.cell {D E : Nat → Prop} {a b : World} (h : Step D E a b) {p : Addr} {v : Value} (hc : a.cell? p = some v) (hn : ¬ D p.block) : b.cell? p = some v := by
  rw [World.cell?_of_block (h.block p.block (World.block_lt_of_cell? a p hc) hn)]; exact hc

theorem Step.frozen {D E : Nat → Prop} {a b : World} (h : Step D E a b) {p : Addr} (hp : p.block < a.heap.size) (hn : ¬ D p.block) : b.frozen? p = a.frozen? p :=
  World.frozen?_of_block (h.block p.block hp hn)

theorem Step.range {D E : Nat → Prop} {a b : World} (h : Step D E a b) {q o : Nat} {cs : List Value} (hc : a.rangeAt q o cs) (hn : ¬ D q) : b.rangeAt q o cs :=
  fun j v hv => h.cell (hc j v hv) hn

theorem Step.bytes {D E : Nat → Prop} {a b : World} (h : Step D E a b) {u : Value} {bs : List UInt8} (hb : Bytes a u bs) (hn : bs ≠ [] → ∀ k, u.ownBlock = some k → ¬ D k) : Bytes b u bs := by
  rcases hb with hb | ⟨q, c, rfl, h1, h2, hr⟩
  · exact .inl hb
  · exact .inr ⟨q, c, rfl, h1, h2, fun j x hx => h.cell (hr j x hx) (by rw [add_block]; exact hn (fun e => by rw [e] at hx; cases hx) _ rfl)⟩

/-- A block that is written out in the grown world. -/
theorem Bytes.lt {w : World} {u : Value} {bs : List UInt8} (h : Bytes w u bs) (hne : bs ≠ []) : ∀ k, u.ownBlock = some k → k < w.heap.size := by
  intro k hk
  rcases h with ⟨rfl, _⟩ | ⟨q, c, rfl, _, _, hr⟩
  · cases hk
  · simp [Value.ownBlock] at hk
    subst hk
    cases bs with
    | nil => exact absurd rfl hne
    | cons x r => have := World.block_lt_of_cell? w _ (hr 0 (bv x) rfl); rwa [add_block] at this

/-- Behind whatever leaves the block alone. -/
theorem Bytes.kept {w w' : World} {u : Value} {bs : List UInt8} (h : Bytes w u bs) (hk : ∀ k, u.ownBlock = some k → k < w.heap.size → w'.heap[k]? = w.heap[k]?) : Bytes w' u bs := by
  rcases h with h | ⟨q, c, rfl, h1, h2, hr⟩
  · exact .inl h
  · refine .inr ⟨q, c, rfl, h1, h2, fun j v hv => ?_⟩
    have h3 := hr j v hv
    have h4 := World.block_lt_of_cell? w _ h3
    rw [add_block] at h4
    rw [World.cell?_of_block (w := w) (w' := w') (a := q.add j) (by rw [add_block]; exact hk _ rfl h4)]; exact h3

theorem Bytes.alloc {w : World} {u : Value} {bs : List UInt8} (h : Bytes w u bs) (o : Obj) : Bytes (w.alloc o) u bs := h.kept fun _ _ hk => Below.heap_alloc _ _ _ hk
theorem Bytes.drew {w : World} {u : Value} {bs : List UInt8} (h : Bytes w u bs) : Bytes w.drew u bs := h.kept fun _ _ _ => rfl

/-- An owned row of bytes, read. -/
theorem bytes_of_owns {w : World} {e : TypeId} {v : Value} {bs : List UInt8} (h : w.ownsRow 0 e 1 v bs.length (bs.map bv)) : Bytes w v bs := by
  have h0 := h
  rcases h.2 with ⟨rfl, hn⟩ | ⟨g, cap, cur, rfl, _, hg, hn, hm, _, _⟩
  · exact .inl ⟨rfl, List.eq_nil_of_length_eq_zero hn⟩
  · exact .inr ⟨⟨g, 0, none⟩, cap, rfl, hn, hm, fun j u hu => h0.cells (g := g) rfl j u hu⟩

/-- 'append' of bytes onto an owned row of bytes: the row goes on in its block, or in a new one. -/
theorem run_append_bytes {P : Program} (w : World) (t ty e : TypeId) (i : TypeInfo) (z : Value) (ht : P.underlying t = some (.slice e)) (hi : P.info? e = some i) (hz : i.zero = some z) (hs : i.size = 1) (hb : i.bytes = 1) (hzs : z.cells.size = 1)
    (v : Value) (xs : List UInt8) (hown : w.ownsRow 0 e 1 v xs.length (xs.map bv)) (u : Value) (bs : List UInt8) (hu : Bytes w u bs) (hl : xs.length + bs.length ≤ 140737488355328) :
    ∃ v' w', (Builtin.append_ #[t, t] ty #[v, u]).run P w = .ok v' w' ∧ w'.ownsRow 0 e 1 v' (xs ++ bs).length ((xs ++ bs).map bv) ∧ w.grownBy w' v.ownBlock ∧
      (v'.ownBlock = v.ownBlock ∨ ∃ k, v'.ownBlock = some k ∧ w.heap.size ≤ k) := by
  have hmx : xs.length + bs.length ≤ maxLen := by unfold maxLen; omega
  rcases hu with ⟨rfl, rfl⟩ | ⟨ad, c, rfl, hlc, _, hr⟩
  · exact ⟨v, w, run_append_owned_none (P := P) w 0 t ty e i 1 ht hi v xs.length (xs.map bv) hown, by simpa using hown, World.grownBy.refl _ _, .inl rfl⟩
  · have hc := hr
    have hln : (bs.map bv).length = bs.length * 1 := by simp
    rcases hown.2 with ⟨rfl, hn⟩ | ⟨g, cap, cur, rfl, hb0, hg, hnc, hcm, hcs, htk⟩
    · have hx : xs = [] := List.eq_nil_of_length_eq_zero hn
      subst hx
      obtain ⟨v', w', hrun, r1, r2, _⟩ := run_append_own (P := P) w w.heap.size t ty e i z 1 1 ht hi hz hs hb hzs (by decide) (.slice none 0 0) 0 [] (World.ownsRow_nil w _ e 1) ad bs.length c (bs.map bv) hln hc (bv_one bs) (by simpa using hmx) (by simpa using hl) (Nat.le_refl _)
      have r1' := r1
      refine ⟨v', w', hrun, ⟨by simp, ?_⟩, r2, ?_⟩
      · rcases r1.2 with ⟨h1, h2⟩ | ⟨g, cap, cur, h1, h2, h3, h4, h5, h6, h7⟩
        · exact .inl ⟨h1, by simpa using h2⟩
        · exact .inr ⟨g, cap, cur, by simpa using h1, Nat.zero_le _, h3, by simpa using h4, h5, h6, by simpa using h7⟩
      · rcases r1.2 with ⟨h1, h2⟩ | ⟨g, cap, cur, h1, h2, _⟩
        · exact .inl (by rw [h1])
        · exact .inr ⟨g, by rw [h1]; rfl, h2⟩
    · by_cases hroom : xs.length + bs.length ≤ cap
      · obtain ⟨w', hrun, r1, r2⟩ := run_append_fits (P := P) w 0 t ty e i 1 ht hi hs g xs.length cap (xs.map bv) hown ad bs.length c (bs.map bv) hln hc (bv_one bs) hroom
        exact ⟨_, w', hrun, by simpa using r1, r2, .inl rfl⟩
      · have hold : ∀ j x, (xs.map bv)[j]? = some x → w.cell? ((⟨g, 0, none⟩ : Addr).add j) = some x := hown.cells (g := g) rfl
        obtain ⟨v', w', hrun, r1, r2⟩ := run_append_arg_grows (P := P) w t ty e i z 1 1 ht hi hz hs hb hzs (by decide) ⟨g, 0, none⟩ xs.length cap (xs.map bv) (by simp) hold ad bs.length c (bs.map bv) hln hc (by omega) hmx (by simpa using hl)
        have r3 : w.grownBy w' (some g) := ⟨r2.os, r2.tape, r2.output, r2.size, fun k hk _ => r2.block k hk (by simp)⟩
        refine ⟨v', w', hrun, ⟨by simp, ?_⟩, r3, ?_⟩
        · rcases r1.2 with ⟨h1, h2⟩ | ⟨g', cap', cur', h1, h2, h3, h4, h5, h6, h7⟩
          · exact .inl ⟨h1, by simpa using h2⟩
          · exact .inr ⟨g', cap', cur', by simpa using h1, Nat.zero_le _, h3, by simpa using h4, h5, h6, by simpa using h7⟩
        · rcases r1.2 with ⟨h1, h2⟩ | ⟨g', cap', cur', h1, h2, _⟩
          · have : 0 < xs.length + bs.length := by omega
            omega
          · exact .inr ⟨g', by rw [h1]; rfl, h2⟩

/-- The same at the walk's list of operations. -/
theorem wpList_append_bytes {P : Program} (w : World) {ops : Array Oper} {rest : List Oper} {op : Oper} {a : Act} {Q : Exit → Act → World → Prop}
    (hg : op.guard = none) (s x : Operand) (t : TypeId) (hop : op.op = Op.call { callee := Callee.builtin Builtin.append, args := #[s, x], argTypes := #[t, t] })
    (e : TypeId) (i : TypeInfo) (z : Value) (ht : P.underlying t = some (.slice e)) (hi : P.info? e = some i) (hz : i.zero = some z) (hs : i.size = 1) (hb : i.bytes = 1) (hzs : z.cells.size = 1)
    (v : Value) (xs : List UInt8) (hsv : a.eval s = v) (hown : w.ownsRow 0 e 1 v xs.length (xs.map bv)) (u : Value) (bs : List UInt8) (hxu : a.eval x = u) (hu : Bytes w u bs) (hl : xs.length + bs.length ≤ 140737488355328)
    (hK : ∀ v' w', w'.ownsRow 0 e 1 v' (xs ++ bs).length ((xs ++ bs).map bv) → w.grownBy w' v.ownBlock → (v'.ownBlock = v.ownBlock ∨ ∃ k, v'.ownBlock = some k ∧ w.heap.size ≤ k) → wpList P ops Q rest (a.put op.dst v') w') :
    wpList P ops Q (op :: rest) a w := by
  refine wpList_plain hg fun K hK' => ?_
  obtain ⟨v', w', hrun, r1, r2, r3⟩ := run_append_bytes (P := P) w t op.type e i z ht hi hz hs hb hzs v xs hown u bs hu hl
  unfold Oper.wp
  simp [execOp, hop, resolve, invoke, builtin, hsv, hxu, hrun, Result.andThen]
  exact hK' _ _ (hK v' w' r1 r2 r3)

/-- Bytes as a string. -/
theorem run_convert_bytes {P : Program} (w : World) (src dst e : TypeId) (hs : P.underlying src = some (.slice e)) (he : P.underlying e = some (.int .u8)) (hd : P.underlying dst = some .string)
    (u : Value) (bs : List UInt8) (hu : Bytes w u bs) : (convert src dst u).run P w = .ok (.string ⟨bs.toArray⟩) w := by
  rcases hu with ⟨rfl, rfl⟩ | ⟨ad, c, rfl, _, _, hr⟩
  · rw [run_convert_bytes_string w src dst e none 0 0 hs he hd]
    simp [Conv.bytesToString, Sem.run_pure]
    rfl
  · rw [run_convert_bytes_string w src dst e _ _ _ hs he hd]
    have hl : (loadCells ad bs.length).run P w = .ok ((bs.map fun x => (x.toNat : Int)).map (Value.int .u8)).toArray w := by
      have := run_loadCells_list (P := P) w ad (bs.map bv) hr
      rw [List.length_map] at this
      rw [List.map_map]
      exact this
    rw [run_bytesToString w ad bs.length c _ hl]
    congr 2
    have : ∀ (l : List UInt8) (s : ByteArray), (l.map fun x => (x.toNat : Int)).foldl (fun r n => r.push (UInt8.ofNat n.toNat)) s = ⟨s.data ++ l.toArray⟩ := by
      intro l
      induction l with
      | nil => intro s; simp
      | cons x l ih =>
        intro s
        simp only [List.map_cons, List.foldl_cons]
        rw [ih]
        simp [ByteArray.push]
    rw [this]
    simp [ByteArray.empty, ByteArray.emptyWithCapacity]
    rfl

end Go.Proofs.YtdlbpbglidhlfaaGreatDoor

namespace Go.Proofs.YtdlbpbglidhlfaaGreatDoor
open Go.RowKit

theorem ret_int {k : IntKind} {a b : Int} (h : a = b) : Ending.returned (.int k a) = .returned (.int k b) := by rw [h]
theorem ret_bool {a b : Bool} (h : a = b) : Ending.returned (.bool a) = .returned (.bool b) := by rw [h]
theorem hide {q : Prop} (h : q) : Hid q := h
theorem unhide {q : Prop} (h : Hid q) : q := h
theorem infoByte0 : (Tryz.prog.info? 5).map (fun i => (i.zero, i.size, i.bytes)) = some (some (.int .u8 0), 1, 1) := by kernel_rfl
theorem infoByte : ∃ i, Tryz.prog.info? 5 = some i ∧ i.zero = some (.int .u8 0) ∧ i.size = 1 ∧ i.bytes = 1 := info_parts infoByte0

/-- min of two numbers, in one way. -/
theorem wpList_min2 {P : Program} {w : World} {ops : Array Oper} {rest : List Oper} {op : Oper} {a : Act} {Q : Exit → Act → World → Prop} (hgd : op.guard = none) (x y : Operand) (t s : TypeId)
    (ho : op.op = .call { callee := .builtin .min, args := #[x, y], argTypes := #[t, s] }) (k k' : IntKind) (m n : Int) (hx : a.eval x = .int k m) (hy : a.eval y = .int k' n)
    (h : wpList P ops Q rest (a.put op.dst (.int k (min m n))) w) : wpList P ops Q (op :: rest) a w := by
  refine wpList_plain hgd fun K hK => ?_
  have hrun : (Builtin.min_ #[t, s] op.type #[.int k m, .int k' n]).run P w = .ok (.int k (min m n)) w := by
    rw [run_min_int2]; congr 2; split <;> omega
  unfold Oper.wp
  simp [execOp, ho, resolve, invoke, builtin, hx, hy, hrun, Result.andThen]
  exact hK _ _ h

theorem Bytes.form {w : World} {u : Value} {bs : List UInt8} (h : Bytes w u bs) : ∃ a c, u = .slice a bs.length c ∧ bs.length ≤ c := by
  rcases h with ⟨rfl, rfl⟩ | ⟨a, c, rfl, hl, _⟩
  · exact ⟨_, _, rfl, Nat.le_refl _⟩
  · exact ⟨_, _, rfl, hl⟩
theorem bytes_len {w : World} {a : Option Addr} {n c : Nat} {bs : List UInt8} (h : Bytes w (.slice a n c) bs) : bs.length = n ∧ n ≤ c := by
  obtain ⟨_, _, hv, hl⟩ := h.form
  simp only [Value.slice.injEq] at hv
  obtain ⟨_, rfl, rfl⟩ := hv
  exact ⟨rfl, hl⟩
theorem Bytes.max {w : World} {u : Value} {bs : List UInt8} (h : Bytes w u bs) : bs.length ≤ 140737488355328 ∨ bs.length ≤ maxLen := by
  rcases h with ⟨_, rfl⟩ | ⟨a, c, _, hl, hm, _⟩
  · exact .inl (by simp)
  · exact .inr (by omega)
theorem Bytes.take {w : World} {a : Option Addr} {n c m : Nat} {bs : List UInt8} (h : Bytes w (.slice a n c) bs) (hm : m ≤ n) (hl : bs.length = n) : Bytes w (.slice a m c) (bs.take m) := by
  have hlt : (bs.take m).length = m := by rw [List.length_take]; omega
  rcases h with ⟨hv, rfl⟩ | ⟨ad, c', hv, hl1, hl2, hr⟩
  · simp only [Value.slice.injEq] at hv
    obtain ⟨rfl, rfl, rfl⟩ := hv
    have : m = 0 := by omega
    subst this
    exact .inl ⟨rfl, by simp⟩
  · simp only [Value.slice.injEq] at hv
    obtain ⟨rfl, _, rfl⟩ := hv
    refine .inr ⟨ad, c, by rw [hlt], by omega, hl2, fun j x hx => hr j x ?_⟩
    rw [List.map_take, List.getElem?_take] at hx
    split at hx
    · exact hx
    · cases hx
/-- A byte of a slice. -/
theorem Bytes.at {w : World} {a : Option Addr} {n c : Nat} {bs : List UInt8} (h : Bytes w (.slice a n c) bs) {i : Nat} (hi : i < n) (hl : bs.length = n) : ∃ ad, a = some ad ∧ w.cell? (ad.add i) = some (.int .u8 ((bs.getD i 0).toNat : Nat)) := by
  rcases h with ⟨hv, rfl⟩ | ⟨ad, c', hv, hl1, hl2, hr⟩
  · simp only [Value.slice.injEq] at hv
    omega
  · simp only [Value.slice.injEq] at hv
    obtain ⟨rfl, _, rfl⟩ := hv
    refine ⟨ad, rfl, hr i _ ?_⟩
    rw [List.getElem?_map, List.getElem?_eq_getElem (by omega), List.getD_eq_getElem?_getD, List.getElem?_eq_getElem (by omega)]
    rfl

/-- r holds the bytes, in a block that is new since w. -/
def Fresh (w w' : World) (r : Value) (bs : List UInt8) : Prop := Bytes w' r bs ∧ (∀ k, r.ownBlock = some k → w.heap.size ≤ k ∧ k < w'.heap.size) ∧ Below w.heap.size w w'

theorem own_keeps {W W' : World} {e : TypeId} {v : Value} {n : Nat} {xs : List Value} (h : W.ownsRow 0 e 1 v n xs) (hk : ∀ k, v.ownBlock = some k → W'.heap[k]? = W.heap[k]?) : W'.ownsRow 0 e 1 v n xs := by
  refine ⟨h.1, ?_⟩
  rcases h.2 with hn | ⟨g, cap, cur, hv, hb0, hg, rest⟩
  · exact .inl hn
  · refine .inr ⟨g, cap, cur, hv, hb0, ?_, rest⟩
    rw [hk g (by rw [hv]; rfl)]; exact hg

/-- A byte of an owned row, read and written. -/
theorem own_at {W : World} {a : Option Addr} {n c : Nat} {bs : List UInt8} (h : W.ownsRow 0 5 1 (.slice a n c) bs.length (bs.map bv)) (hl : bs.length = n) {k : Nat} (hk : k < n) : ∃ b, a = some ⟨b, 0, none⟩ ∧ W.cell? ⟨b, k, none⟩ = some (.int .u8 ((bs.getD k 0).toNat : Nat)) ∧ W.frozen? ⟨b, k, none⟩ = false ∧
    ∀ y : UInt8, (W.setCell ⟨b, k, none⟩ (.int .u8 (y.toNat : Nat))).ownsRow 0 5 1 (.slice a n c) (bs.set k y).length ((bs.set k y).map bv) := by
  have h0 := h
  subst hl
  rcases h.2 with ⟨hv, hn⟩ | ⟨g, cap, cur, hv, hb0, hg, hn, hm, hcs, htk⟩
  · omega
  · simp only [Value.slice.injEq] at hv
    obtain ⟨rfl, _, rfl⟩ := hv
    have hx : (bs.map bv)[k]? = some (bv (bs.getD k 0)) := by rw [List.getElem?_map, List.getElem?_eq_getElem hk, List.getD_eq_getElem?_getD, List.getElem?_eq_getElem hk]; rfl
    have hc := h0.cells (g := g) rfl k _ hx
    refine ⟨g, rfl, ?_, frozen_of_row _ _ _ _ _ hg, fun y => ⟨by simp, .inr ⟨g, c, cur.setIfInBounds k (.int .u8 (y.toNat : Nat)), by simp, hb0, ?_, by simpa using hn, hm, by simpa using hcs, ?_⟩⟩⟩
    · have hc' : W.cell? ⟨g, k, none⟩ = some (bv (bs.getD k 0)) := by simpa [Addr.add_mid] using hc
      exact hc'
    · rw [heap_setCell_same _ _ _ _ _ _ hg]
    · simp only [Nat.mul_one, List.length_set] at htk ⊢
      rw [Array.toList_setIfInBounds, show (Value.int .u8 (y.toNat : Nat)) = bv y from rfl, List.map_set, ← htk, List.take_set]

/-- The empty row that 'append([]byte..)' begins with. -/
theorem own_nil (w : World) : (w.alloc (.cells #[] 5)).ownsRow 0 5 1 (.slice (some ⟨w.heap.size, 0, none⟩) 0 0) ([] : List UInt8).length (([] : List UInt8).map bv) :=
  ⟨by simp, .inr ⟨w.heap.size, 0, #[], rfl, Nat.zero_le _, heap_alloc_new w _, Nat.le_refl _, by decide, rfl, by simp⟩⟩
end Go.Proofs.YtdlbpbglidhlfaaGreatDoor

namespace Go.Proofs.YtdlbpbglidhlfaaGreatDoor

/-- A number without a sign, in groups of seven bits. -/
def grp (u : Nat) : List UInt8 := if u < 128 then [UInt8.ofNat u] else UInt8.ofNat (128 + u % 128) :: grp (u / 128)
termination_by u
decreasing_by omega

theorem grp_low {u : Nat} (h : u < 128) : grp u = [UInt8.ofNat u] := by rw [grp, if_pos h]
theorem grp_high {u : Nat} (h : 128 ≤ u) : grp u = UInt8.ofNat (128 + u % 128) :: grp (u / 128) := by rw [grp, if_neg (by omega)]
theorem grp_ne (u : Nat) : grp u ≠ [] := by
  by_cases h : u < 128
  · rw [grp_low h]; simp
  · rw [grp_high (by omega)]; simp
theorem grp_pos (u : Nat) : 0 < (grp u).length := List.length_pos_iff.2 (grp_ne u)
theorem u8_toNat {x : Nat} (h : x < 256) : (UInt8.ofNat x).toNat = x := by simp; omega

/-- What groups are worth. -/
def val : List UInt8 → Nat
  | [] => 0
  | x :: l => x.toNat % 128 + 128 * val l
theorem val_grp (u : Nat) : val (grp u) = u := by
  induction u using Nat.strongRecOn with
  | ind u ih =>
    by_cases h : u < 128
    · rw [grp_low h]; simp only [val]; rw [u8_toNat (by omega)]; omega
    · rw [grp_high (by omega)]; simp only [val]; rw [ih _ (by omega), u8_toNat (by omega)]; omega
theorem grp_inj {u v : Nat} (h : grp u = grp v) : u = v := by rw [← val_grp u, h, val_grp]

/-- Groups: all but the last one have 128 more, and the last one is not 0, but for the number 0. -/
inductive Said : List UInt8 → Prop
  | last (x : UInt8) : x.toNat < 128 → Said [x]
  | more (x : UInt8) (l : List UInt8) : 128 ≤ x.toNat → Said l → val l ≠ 0 → Said (x :: l)
theorem said_grp (u : Nat) : Said (grp u) := by
  induction u using Nat.strongRecOn with
  | ind u ih =>
    by_cases h : u < 128
    · rw [grp_low h]; exact .last _ (by rw [u8_toNat (by omega)]; exact h)
    · rw [grp_high (by omega)]
      exact .more _ _ (by rw [u8_toNat (by omega)]; omega) (ih _ (by omega)) (by rw [val_grp]; omega)
theorem grp_val {l : List UInt8} (h : Said l) : grp (val l) = l := by
  induction h with
  | last x hx => simp only [val]; rw [show x.toNat % 128 + 128 * 0 = x.toNat by omega, grp_low hx, UInt8.ofNat_toNat]
  | more x l hx _ hv ih =>
    have hb := x.toNat_lt
    simp only [val]
    rw [grp_high (by omega), show (x.toNat % 128 + 128 * val l) / 128 = val l by omega, ih, show 128 + (x.toNat % 128 + 128 * val l) % 128 = x.toNat by omega, UInt8.ofNat_toNat]

/-- No number's groups are the begin of another's. -/
theorem grp_prefix {u v : Nat} {r s : List UInt8} (h : grp u ++ r = grp v ++ s) : u = v ∧ r = s := by
  induction u using Nat.strongRecOn generalizing v with
  | ind u ih =>
    have e : ∀ {x y : Nat}, x < 256 → y < 256 → UInt8.ofNat x = UInt8.ofNat y → x = y := fun hx hy h => by rw [← u8_toNat hx, h, u8_toNat hy]
    by_cases hu : u < 128 <;> by_cases hv : v < 128
    · rw [grp_low hu, grp_low hv] at h
      simp only [List.cons_append, List.nil_append, List.cons.injEq] at h
      exact ⟨e (by omega) (by omega) h.1, h.2⟩
    · rw [grp_low hu, grp_high (u := v) (by omega)] at h
      simp only [List.cons_append, List.nil_append, List.cons.injEq] at h
      have := e (by omega) (by omega) h.1
      omega
    · rw [grp_high (u := u) (by omega), grp_low hv] at h
      simp only [List.cons_append, List.nil_append, List.cons.injEq] at h
      have := e (by omega) (by omega) h.1
      omega
    · rw [grp_high (u := u) (by omega), grp_high (u := v) (by omega)] at h
      simp only [List.cons_append, List.cons.injEq] at h
      have h1 := e (by omega) (by omega) h.1
      obtain ⟨h2, h3⟩ := ih _ (by omega) h.2
      exact ⟨by omega, h3⟩

theorem grp_mono {u v : Nat} (h : u ≤ v) : (grp u).length ≤ (grp v).length := by
  induction u using Nat.strongRecOn generalizing v with
  | ind u ih =>
    by_cases hu : u < 128
    · rw [grp_low hu]; exact grp_pos v
    · rw [grp_high (by omega : 128 ≤ u), grp_high (by omega : 128 ≤ v)]
      have := ih (u / 128) (by omega) (v := v / 128) (by omega)
      simp only [List.length_cons]
      omega
theorem grp_length_le (k : Nat) : ∀ u, u < 128 ^ (k + 1) → (grp u).length ≤ k + 1 := by
  induction k with
  | zero => intro u h; rw [grp_low (by simpa using h)]; simp
  | succ k ih =>
    intro u h
    by_cases hu : u < 128
    · rw [grp_low hu]; simp
    · rw [grp_high (by omega), List.length_cons]
      have := ih (u / 128) (by rw [Nat.pow_succ] at h; exact Nat.div_lt_of_lt_mul (by omega))
      omega
theorem grp_ten {u : Nat} (h : u < 18446744073709551616) : (grp u).length ≤ 10 := grp_length_le 9 u (Nat.lt_of_lt_of_le h (by decide))

/-- The numbers of 64 bits. -/
def InR (n : Int) : Prop := -9223372036854775808 ≤ n ∧ n ≤ 9223372036854775807
/-- A number without a sign for n. -/
def zz (n : Int) : Nat := if n < 0 then (-2 * n - 1).toNat else (2 * n).toNat
def unz (u : Nat) : Int := if u % 2 = 1 then -((u / 2 : Nat) : Int) - 1 else ((u / 2 : Nat) : Int)
theorem unz_zz (n : Int) : unz (zz n) = n := by unfold unz zz; split <;> split <;> omega
theorem zz_unz (u : Nat) : zz (unz u) = u := by unfold unz zz; split <;> split <;> omega
theorem zz_lt {n : Int} (h : InR n) : zz n < 18446744073709551616 := by unfold InR at h; unfold zz; split <;> omega
theorem unz_in {u : Nat} (h : u < 18446744073709551616) : InR (unz u) := by unfold InR unz; split <;> omega
theorem zz_inj {m n : Int} (h : zz m = zz n) : m = n := by rw [← unz_zz m, h, unz_zz]

/-- A number's bytes. -/
def numB (n : Int) : List UInt8 := grp (zz n)
theorem numB_ten {n : Int} (h : InR n) : (numB n).length ≤ 10 := grp_ten (zz_lt h)
theorem numB_pos (n : Int) : 0 < (numB n).length := grp_pos _
theorem numB_prefix {m n : Int} {r s : List UInt8} (h : numB m ++ r = numB n ++ s) : m = n ∧ r = s := by
  obtain ⟨h1, h2⟩ := grp_prefix h
  exact ⟨zz_inj h1, h2⟩
theorem numB_far {a b : Int} (h : 0 ≤ a ∧ a ≤ b ∨ a < 0 ∧ b ≤ a) : (numB a).length ≤ (numB b).length := grp_mono (by unfold zz; split <;> split <;> omega)

/-- b begins with n's bytes, which are k. -/
structure Reads (b : List UInt8) (n : Int) (k : Nat) : Prop where
  inr : InR n
  len : k = (numB n).length
  eq : b = numB n ++ b.drop k
def NoNum (b : List UInt8) : Prop := ∀ n k, ¬ Reads b n k
theorem Reads.of {b r : List UInt8} {n : Int} (hn : InR n) (h : b = numB n ++ r) : Reads b n (numB n).length := ⟨hn, rfl, by rw [h]; simp⟩
theorem Reads.take {b : List UInt8} {n : Int} {k : Nat} (h : Reads b n k) : b.take k = numB n := by
  obtain ⟨_, rfl, he⟩ := h
  rw [he]; simp
theorem Reads.le {b : List UInt8} {n : Int} {k : Nat} (h : Reads b n k) : k ≤ b.length := by
  have := h.eq
  rw [h.len, this]; simp
theorem Reads.pos {b : List UInt8} {n : Int} {k : Nat} (h : Reads b n k) : 0 < k := by rw [h.len]; exact numB_pos n
theorem Reads.ten {b : List UInt8} {n : Int} {k : Nat} (h : Reads b n k) : k ≤ 10 := by rw [h.len]; exact numB_ten h.inr
theorem Reads.same {b : List UInt8} {m n : Int} {j k : Nat} (h : Reads b m j) (h' : Reads b n k) : m = n ∧ j = k := by
  have e := h.eq.symm.trans h'.eq
  obtain ⟨rfl, _⟩ := numB_prefix e
  exact ⟨rfl, by rw [h.len, h'.len]⟩
theorem Reads.append {b : List UInt8} {n : Int} {k : Nat} (h : Reads b n k) (r : List UInt8) : Reads (b ++ r) n k := by
  refine ⟨h.inr, h.len, ?_⟩
  rw [List.drop_append_of_le_length h.le, ← List.append_assoc, ← h.eq]
/-- Nothing less of a number's bytes is a number. -/
theorem noNum_take {n : Int} {i : Nat} (h : i < (numB n).length) : NoNum ((numB n).take i) := fun m k hr => by
  have h1 := hr.append ((numB n).drop i)
  rw [List.take_append_drop] at h1
  obtain ⟨rfl, _⟩ := numB_prefix ((List.append_nil (numB n)).trans h1.eq)
  have := hr.le
  rw [List.length_take, hr.len] at this
  omega

/-- Bytes before any that is less than 128. -/
def Highs (l : List UInt8) : Prop := ∀ x ∈ l, 128 ≤ x.toNat
theorem Said.form {l : List UInt8} (h : Said l) : ∃ p y, l = p ++ [y] ∧ Highs p ∧ y.toNat < 128 ∧ (p = [] ∨ y.toNat ≠ 0) := by
  induction h with
  | last x hx => exact ⟨[], x, rfl, fun _ h => (by cases h), hx, .inl rfl⟩
  | more x l hx hs hv ih =>
    obtain ⟨p, y, rfl, hp, hy, hz⟩ := ih
    refine ⟨x :: p, y, rfl, fun z hz => ?_, hy, .inr ?_⟩
    · rcases List.mem_cons.1 hz with rfl | h
      · exact hx
      · exact hp z h
    · rcases hz with rfl | hz
      · intro e; apply hv; simp [val, e]
      · exact hz
theorem val_snoc_ne : ∀ (p : List UInt8) (y : UInt8), y.toNat < 128 → y.toNat ≠ 0 → val (p ++ [y]) ≠ 0
  | [], y, h, hn => by simp only [List.nil_append, val]; omega
  | x :: p, y, h, hn => by have := val_snoc_ne p y h hn; simp only [List.cons_append, val]; omega
theorem said_of_form : ∀ (p : List UInt8) (y : UInt8), Highs p → y.toNat < 128 → (p = [] ∨ y.toNat ≠ 0) → Said (p ++ [y])
  | [], y, _, hy, _ => .last y hy
  | x :: p, y, hp, hy, hz => .more x (p ++ [y]) (hp x (by simp)) (said_of_form p y (fun z hz => hp z (by simp [hz])) hy (hz.elim (fun h => by cases h) .inr)) (val_snoc_ne p y hy (hz.elim (fun h => by cases h) id))
theorem val_append : ∀ (p q : List UInt8), val (p ++ q) = val p + 128 ^ p.length * val q
  | [], q => by simp [val]
  | x :: p, q => by rw [List.cons_append]; simp only [val]; rw [val_append p q, List.length_cons, Nat.pow_succ, Nat.mul_add, Nat.mul_comm (128 ^ p.length) 128, Nat.mul_assoc]; omega
theorem val_lt : ∀ (p : List UInt8), val p < 128 ^ p.length
  | [] => by simp [val]
  | x :: p => by have := val_lt p; simp only [val]; rw [List.length_cons, Nat.pow_succ]; omega
/-- Highs are parted from the first one that is less in one way. -/
theorem highs_same : ∀ {p q : List UInt8} {y z : UInt8} {r s : List UInt8}, Highs p → Highs q → y.toNat < 128 → z.toNat < 128 → p ++ y :: r = q ++ z :: s → p = q ∧ y = z ∧ r = s
  | [], [], y, z, r, s, _, _, _, _, h => by simpa using h
  | [], x :: q, y, z, r, s, _, hq, hy, _, h => by simp only [List.nil_append, List.cons_append, List.cons.injEq] at h; have := hq x (by simp); rw [← h.1] at this; omega
  | x :: p, [], y, z, r, s, hp, _, _, hz, h => by simp only [List.nil_append, List.cons_append, List.cons.injEq] at h; have := hp x (by simp); rw [h.1] at this; omega
  | x :: p, x' :: q, y, z, r, s, hp, hq, hy, hz, h => by
    simp only [List.cons_append, List.cons.injEq] at h
    obtain ⟨h1, h2, h3⟩ := highs_same (fun a ha => hp a (by simp [ha])) (fun a ha => hq a (by simp [ha])) hy hz h.2
    exact ⟨by rw [h.1, h1], h2, h3⟩
/-- What is read, as it stands. -/
theorem Reads.form {b : List UInt8} {n : Int} {k : Nat} (h : Reads b n k) : ∃ p y, b = p ++ y :: b.drop k ∧ k = p.length + 1 ∧ Highs p ∧ y.toNat < 128 ∧ (p = [] ∨ y.toNat ≠ 0) ∧ p ++ [y] = numB n := by
  obtain ⟨p, y, e, h1, h2, h3⟩ := (said_grp (zz n)).form
  have e' : numB n = p ++ [y] := e
  refine ⟨p, y, ?_, by rw [h.len, e']; simp, h1, h2, h3, e'.symm⟩
  have := h.eq
  rw [e', List.append_assoc] at this
  exact this
/-- No number: no byte ends it within ten. -/
theorem noNum_highs {b : List UInt8} {k : Nat} (h : Highs (b.take k)) (hk : k = 10 ∨ b.length ≤ k) : NoNum b := fun n j hr => by
  obtain ⟨p, y, e, ej, hp, hy, _⟩ := hr.form
  have hj : j ≤ k := hk.elim (fun e => by rw [e]; exact hr.ten) (Nat.le_trans hr.le)
  have : y ∈ b.take k := by
    rw [e, List.take_append, List.mem_append]
    refine .inr ?_
    rw [show k - p.length = (k - p.length - 1) + 1 by omega, List.take_succ_cons]
    simp
  have := h y this
  omega
/-- What ends at a byte is a number's, or there is none. -/
theorem noNum_zero {p r : List UInt8} {y : UInt8} (hp : Highs p) (hy : y.toNat = 0) (hne : p ≠ []) : NoNum (p ++ y :: r) := fun n j hr => by
  obtain ⟨q, z, e, _, hq, hz, h0, _⟩ := hr.form
  obtain ⟨rfl, rfl, _⟩ := highs_same hp hq (by omega) hz e
  rcases h0 with h0 | h0
  · exact hne h0
  · exact h0 hy
theorem noNum_big {p r : List UInt8} {y : UInt8} (hp : Highs p) (hy : 1 < y.toNat) (hy' : y.toNat < 128) (hl : p.length = 9) : NoNum (p ++ y :: r) := fun n j hr => by
  obtain ⟨q, z, e, _, hq, hz, h0, e2⟩ := hr.form
  obtain ⟨rfl, rfl, _⟩ := highs_same hp hq hy' hz e
  have h1 := zz_lt hr.inr
  have h2 : val (p ++ [y]) = zz n := by rw [e2]; exact val_grp _
  rw [val_append, hl] at h2
  simp only [val] at h2
  omega
theorem Reads.made {p r : List UInt8} {y : UInt8} (hp : Highs p) (hy : y.toNat < 128) (hz : p = [] ∨ y.toNat ≠ 0) (hl : p.length < 9 ∨ p.length = 9 ∧ y.toNat ≤ 1) : Reads (p ++ y :: r) (unz (val (p ++ [y]))) (p.length + 1) := by
  have hb : val (p ++ [y]) < 18446744073709551616 := by
    have h1 := val_lt p
    rw [val_append]
    simp only [val]
    rcases hl with hl | ⟨hl, h1y⟩
    · have h2 := Nat.pow_le_pow_right (n := 128) (by omega) (show p.length ≤ 8 by omega)
      have h3 : 128 ^ p.length * (y.toNat % 128 + 128 * 0) ≤ 128 ^ p.length * 127 := Nat.mul_le_mul_left _ (by omega)
      have h4 : 128 ^ p.length * 127 ≤ 128 ^ 8 * 127 := Nat.mul_le_mul_right _ h2
      have h5 : (128 ^ 8 : Nat) = 72057594037927936 := by decide
      omega
    · rw [hl] at h1 ⊢
      have h5 : (128 ^ 9 : Nat) = 9223372036854775808 := by decide
      rw [h5] at h1 ⊢
      omega
  have e : numB (unz (val (p ++ [y]))) = p ++ [y] := by unfold numB; rw [zz_unz, grp_val (said_of_form p y hp hy hz)]
  have := Reads.of (b := p ++ y :: r) (r := r) (unz_in hb) (by rw [e]; simp)
  rw [e] at this
  simpa using this

/-- A text's bytes. -/
def textB (s : List UInt8) : List UInt8 := numB s.length ++ s
/-- b begins with the bytes of the text s, of at most most bytes; its length has k. -/
structure ReadsT (b : List UInt8) (most : Int) (s : List UInt8) (k : Nat) : Prop where
  num : Reads b s.length k
  most : (s.length : Int) ≤ most
  eq : b.drop k = s ++ b.drop (k + s.length)
def NoText (b : List UInt8) (most : Int) : Prop := ∀ s k, ¬ ReadsT b most s k
theorem ReadsT.whole {b : List UInt8} {most : Int} {s : List UInt8} {k : Nat} (h : ReadsT b most s k) : b = textB s ++ b.drop (k + s.length) := by
  have h1 := h.num.eq
  rw [h.eq] at h1
  rw [textB, List.append_assoc]
  exact h1
theorem ReadsT.of {b r s : List UInt8} {most : Int} (hn : InR s.length) (hm : (s.length : Int) ≤ most) (h : b = textB s ++ r) : ReadsT b most s (numB s.length).length := by
  subst h
  refine ⟨Reads.of (r := s ++ r) hn (by simp [textB]), hm, ?_⟩
  simp [textB]
theorem ReadsT.same {b : List UInt8} {m m' : Int} {s t : List UInt8} {j k : Nat} (h : ReadsT b m s j) (h' : ReadsT b m' t k) : s = t ∧ j = k := by
  obtain ⟨h1, rfl⟩ := h.num.same h'.num
  have hl : s.length = t.length := by omega
  have e := h.eq.symm.trans h'.eq
  exact ⟨(List.append_inj e hl).1, rfl⟩
theorem ReadsT.le {b : List UInt8} {most : Int} {s : List UInt8} {k : Nat} (h : ReadsT b most s k) : k + s.length ≤ b.length := by
  have h1 := congrArg List.length h.eq
  have h2 := h.num.le
  simp only [List.length_drop, List.length_append] at h1
  omega
theorem ReadsT.append {b : List UInt8} {most : Int} {s : List UInt8} {k : Nat} (h : ReadsT b most s k) (r : List UInt8) : ReadsT (b ++ r) most s k := by
  refine ⟨h.num.append r, h.most, ?_⟩
  rw [List.drop_append_of_le_length h.num.le, List.drop_append_of_le_length h.le, ← List.append_assoc, ← h.eq]
theorem textB_prefix {s t r q : List UInt8} (h : textB s ++ r = textB t ++ q) : s = t ∧ r = q := by
  unfold textB at h
  rw [List.append_assoc, List.append_assoc] at h
  obtain ⟨h1, h2⟩ := numB_prefix h
  exact List.append_inj h2 (by omega)
theorem noText_take {s : List UInt8} {i : Nat} {most : Int} (h : i < (textB s).length) : NoText ((textB s).take i) most := fun t k hr => by
  have h1 := (hr.append ((textB s).drop i)).whole
  rw [List.take_append_drop] at h1
  obtain ⟨rfl, _⟩ := textB_prefix ((List.append_nil (textB s)).trans h1)
  have h2 := hr.le
  have h3 := hr.num.len
  rw [List.length_take] at h2
  rw [textB, List.length_append, ← h3] at h
  omega
theorem noText_most {s r : List UInt8} {most : Int} (hm : most < s.length) : NoText (textB s ++ r) most := fun t k hr => by
  obtain ⟨rfl, _⟩ := textB_prefix (hr.whole.symm)
  have := hr.most
  omega
theorem noText_of_noNum {b : List UInt8} {most : Int} (h : NoNum b) : NoText b most := fun _ _ hr => h _ _ hr.num
/-- What TakeText looks at. -/
theorem readsT_of {b : List UInt8} {most : Int} {n : Int} {k : Nat} (h : Reads b n k) (h0 : 0 ≤ n) (hm : n ≤ most) (hl : n ≤ b.length - k) : ReadsT b most ((b.drop k).take n.toNat) k := by
  have hkb := h.le
  have hlen : ((b.drop k).take n.toNat).length = n.toNat := by rw [List.length_take, List.length_drop]; omega
  have hc : (((b.drop k).take n.toNat).length : Int) = n := by rw [hlen]; omega
  refine ⟨by rw [hc]; exact h, by rw [hc]; exact hm, ?_⟩
  rw [hlen, ← List.drop_drop, List.take_append_drop]
theorem noText_of {b : List UInt8} {most : Int} {n : Int} {k : Nat} (h : Reads b n k) (hn : n < 0 ∨ most < n ∨ (b.length : Int) - k < n) : NoText b most := fun t j hr => by
  obtain ⟨h1, rfl⟩ := h.same hr.num
  have := hr.most
  have := hr.le
  omega
end Go.Proofs.YtdlbpbglidhlfaaGreatDoor

namespace Go.Proofs.YtdlbpbglidhlfaaGreatDoor

/-- A value: kind, number, text, list. -/
inductive VD where
  | mk (k : Nat) (n : Int) (s : List UInt8) (l : List VD)
namespace VD
def k : VD → Nat | mk k _ _ _ => k
def n : VD → Int | mk _ n _ _ => n
def s : VD → List UInt8 | mk _ _ s _ => s
def l : VD → List VD | mk _ _ _ l => l
end VD

mutual
def VD.parts : VD → Nat
  | .mk _ _ _ l => VD.partsL l + 1
def VD.partsL : List VD → Nat
  | [] => 0
  | x :: r => x.parts + VD.partsL r
end
mutual
def VD.deep : VD → Nat
  | .mk _ _ _ l => VD.deepL l + 1
def VD.deepL : List VD → Nat
  | [] => 0
  | x :: r => Nat.max x.deep (VD.deepL r)
end
mutual
/-- Is each part of a right kind, with nothing else? -/
def VD.kinds : VD → Bool
  | .mk 0 _ s l => s.isEmpty && l.isEmpty
  | .mk 1 n s l => decide (n = 0) && l.isEmpty && decide (s.length ≤ 100)
  | .mk 2 n s l => decide (n = 0) && s.isEmpty && decide (l.length ≤ 40) && VD.kindsL l
  | .mk _ _ _ _ => false
def VD.kindsL : List VD → Bool
  | [] => true
  | x :: r => x.kinds && VD.kindsL r
end
mutual
def VD.bytes : VD → List UInt8
  | .mk 0 n _ _ => numB 0 ++ numB n
  | .mk 1 _ s _ => numB 1 ++ textB s
  | .mk k _ _ l => numB ((k : Nat) : Int) ++ (numB ((l.length : Nat) : Int) ++ VD.bytesL l)
def VD.bytesL : List VD → List UInt8
  | [] => []
  | x :: r => x.bytes ++ VD.bytesL r
end
mutual
def VD.same : VD → VD → Bool
  | .mk k n s l, .mk k' n' s' l' => decide (k = k') && decide (n = n') && decide (s = s') && VD.sameL l l'
def VD.sameL : List VD → List VD → Bool
  | [], [] => true
  | x :: r, y :: q => x.same y && VD.sameL r q
  | _, _ => false
end
def VD.right (v : VD) : Bool := v.kinds && decide (v.deep ≤ 6) && decide (v.parts ≤ 200)

theorem VD.parts_pos (v : VD) : 0 < v.parts := by cases v; simp only [VD.parts]; omega
theorem VD.deep_pos (v : VD) : 0 < v.deep := by cases v; simp only [VD.deep]; omega
theorem VD.parts_mem : ∀ {l : List VD} {x : VD}, x ∈ l → x.parts ≤ VD.partsL l
  | y :: r, x, h => by
    simp only [VD.partsL]
    rcases List.mem_cons.1 h with rfl | h
    · omega
    · have := VD.parts_mem h; omega
theorem VD.parts_lt {v x : VD} (h : x ∈ v.l) : x.parts < v.parts := by
  obtain ⟨k, n, s, l⟩ := v
  have := VD.parts_mem h
  simp only [VD.parts, VD.l] at *
  omega
theorem VD.partsL_append (l q : List VD) : VD.partsL (l ++ q) = VD.partsL l + VD.partsL q := by
  induction l with
  | nil => simp [VD.partsL]
  | cons x r ih => simp only [List.cons_append, VD.partsL]; omega
theorem VD.partsL_length (l : List VD) : l.length ≤ VD.partsL l := by
  induction l with
  | nil => simp
  | cons x r ih => have := x.parts_pos; simp only [VD.partsL, List.length_cons]; omega
theorem VD.partsL_take (l : List VD) (j : Nat) : VD.partsL (l.take j) ≤ VD.partsL l := by
  have := VD.partsL_append (l.take j) (l.drop j)
  rw [List.take_append_drop] at this
  omega
theorem VD.parts_mk (v : VD) : v.parts = VD.partsL v.l + 1 := by cases v; rfl
theorem VD.deep_mk (v : VD) : v.deep = VD.deepL v.l + 1 := by cases v; rfl
theorem VD.deepL_append (l q : List VD) : VD.deepL (l ++ q) = Nat.max (VD.deepL l) (VD.deepL q) := by
  induction l with
  | nil => simp [VD.deepL]
  | cons x r ih => simp only [List.cons_append, VD.deepL]; rw [ih]; exact (Nat.max_assoc _ _ _).symm
theorem VD.deep_mem : ∀ {l : List VD} {x : VD}, x ∈ l → x.deep ≤ VD.deepL l
  | y :: r, x, h => by
    simp only [VD.deepL]
    rcases List.mem_cons.1 h with rfl | h
    · exact Nat.le_max_left _ _
    · exact Nat.le_trans (VD.deep_mem h) (Nat.le_max_right _ _)
theorem VD.deepL_le : ∀ {l : List VD} {d : Nat}, (∀ x ∈ l, x.deep ≤ d) → VD.deepL l ≤ d
  | [], _, _ => Nat.zero_le _
  | x :: r, d, h => Nat.max_le.2 ⟨h x (by simp), VD.deepL_le fun y hy => h y (by simp [hy])⟩
theorem VD.deep_le_parts : ∀ (m : Nat) (v : VD), v.parts ≤ m → v.deep ≤ v.parts
  | 0, v, h => by have := v.parts_pos; omega
  | m + 1, v, h => by
    rw [v.deep_mk, v.parts_mk]
    have : VD.deepL v.l ≤ VD.partsL v.l := VD.deepL_le fun x hx => Nat.le_trans (VD.deep_le_parts m x (by have := VD.parts_lt hx; omega)) (VD.parts_mem hx)
    omega
theorem VD.kindsL_iff (l : List VD) : VD.kindsL l = true ↔ ∀ x ∈ l, x.kinds = true := by
  induction l with
  | nil => simp [VD.kindsL]
  | cons x r ih => simp [VD.kindsL, ih]
theorem VD.bytesL_append (l q : List VD) : VD.bytesL (l ++ q) = VD.bytesL l ++ VD.bytesL q := by
  induction l with
  | nil => simp [VD.bytesL]
  | cons x r ih => simp [VD.bytesL, ih, List.append_assoc]

/-- Strong induction on how many parts there are. -/
theorem VD.induct {P : VD → Prop} (h : ∀ v, (∀ x ∈ v.l, P x) → P v) : ∀ v, P v := by
  have key : ∀ m (v : VD), v.parts ≤ m → P v := by
    intro m
    induction m with
    | zero => intro v hv; have := v.parts_pos; omega
    | succ m ih => intro v hv; exact h v fun x hx => ih x (by have := VD.parts_lt hx; omega)
  intro v
  exact key v.parts v (Nat.le_refl _)

theorem VD.same_iff (v : VD) : ∀ w : VD, v.same w = true ↔ v = w := by
  induction v using VD.induct with
  | h v ih =>
    obtain ⟨k, n, s, l⟩ := v
    have hl : ∀ (l q : List VD), (∀ x ∈ l, ∀ w : VD, x.same w = true ↔ x = w) → (VD.sameL l q = true ↔ l = q) := by
      intro l
      induction l with
      | nil => intro q _; cases q <;> simp [VD.sameL]
      | cons x r ih2 =>
        intro q hx
        cases q with
        | nil => simp [VD.sameL]
        | cons y q =>
          simp only [VD.sameL, Bool.and_eq_true, List.cons.injEq]
          rw [hx x (by simp) y, ih2 q fun z hz => hx z (by simp [hz])]
    intro w
    obtain ⟨k', n', s', l'⟩ := w
    simp only [VD.same, Bool.and_eq_true, decide_eq_true_eq, VD.mk.injEq]
    rw [hl l l' ih]
    constructor
    · rintro ⟨⟨⟨a, b⟩, c⟩, d⟩; exact ⟨a, b, c, d⟩
    · rintro ⟨a, b, c, d⟩; exact ⟨⟨⟨a, b⟩, c⟩, d⟩

/-- What a value of a right kind is. -/
theorem VD.kinds_cases {v : VD} (h : v.kinds = true) : (∃ n, v = .mk 0 n [] []) ∨ (∃ s, v = .mk 1 0 s [] ∧ s.length ≤ 100) ∨ (∃ l, v = .mk 2 0 [] l ∧ l.length ≤ 40 ∧ ∀ x ∈ l, x.kinds = true) := by
  obtain ⟨k, n, s, l⟩ := v
  match k, h with
  | 0, h =>
    simp only [VD.kinds, Bool.and_eq_true, List.isEmpty_iff] at h
    obtain ⟨rfl, rfl⟩ := h
    exact .inl ⟨n, rfl⟩
  | 1, h =>
    simp only [VD.kinds, Bool.and_eq_true, List.isEmpty_iff, decide_eq_true_eq] at h
    obtain ⟨⟨rfl, rfl⟩, h9⟩ := h
    exact .inr (.inl ⟨s, rfl, h9⟩)
  | 2, h =>
    simp only [VD.kinds, Bool.and_eq_true, List.isEmpty_iff, decide_eq_true_eq] at h
    obtain ⟨⟨⟨rfl, rfl⟩, h1⟩, h2⟩ := h
    exact .inr (.inr ⟨l, rfl, h1, (VD.kindsL_iff l).1 h2⟩)
  | k + 3, h => simp [VD.kinds] at h

/-- Numbers of 64 bits in all of it. -/
inductive VD.Fits : VD → Prop
  | mk (k : Nat) (n : Int) (s : List UInt8) (l : List VD) : InR n → (∀ x ∈ l, VD.Fits x) → VD.Fits (.mk k n s l)
theorem VD.Fits.n {v : VD} (h : v.Fits) : InR v.n := by cases h; assumption
theorem VD.Fits.mem {v x : VD} (h : v.Fits) (hx : x ∈ v.l) : x.Fits := by cases h with | mk k n s l _ hl => exact hl x hx

/-- No value's bytes are the begin of another's. -/
theorem VD.bytes_prefix (v : VD) : ∀ (w : VD) (r q : List UInt8), v.kinds = true → w.kinds = true → v.bytes ++ r = w.bytes ++ q → v = w ∧ r = q := by
  induction v using VD.induct with
  | h v ih =>
    have hL : ∀ (l p : List VD) (r q : List UInt8), (∀ x ∈ l, ∀ (w : VD) (r q : List UInt8), x.kinds = true → w.kinds = true → x.bytes ++ r = w.bytes ++ q → x = w ∧ r = q) → l.length = p.length → (∀ x ∈ l, x.kinds = true) → (∀ x ∈ p, x.kinds = true) → VD.bytesL l ++ r = VD.bytesL p ++ q → l = p ∧ r = q := by
      intro l
      induction l with
      | nil =>
        intro p r q _ hl _ _ h
        have : p = [] := List.eq_nil_of_length_eq_zero hl.symm
        subst this
        exact ⟨rfl, h⟩
      | cons x t ih2 =>
        intro p r q hx hl hk hk' h
        match p, hl with
        | y :: p, hl =>
          simp only [VD.bytesL, List.append_assoc] at h
          obtain ⟨rfl, h2⟩ := hx x (by simp) y _ _ (hk x (by simp)) (hk' y (by simp)) h
          obtain ⟨rfl, h3⟩ := ih2 p r q (fun z hz => hx z (by simp [hz])) (by simpa using hl) (fun z hz => hk z (by simp [hz])) (fun z hz => hk' z (by simp [hz])) h2
          exact ⟨rfl, h3⟩
    intro w r q hv hw h
    rcases VD.kinds_cases hv with ⟨n, rfl⟩ | ⟨s, rfl, hs⟩ | ⟨l, rfl, hl, hk⟩ <;> rcases VD.kinds_cases hw with ⟨n', rfl⟩ | ⟨s', rfl, hs'⟩ | ⟨l', rfl, hl', hk'⟩ <;> simp only [VD.bytes, List.append_assoc] at h <;> obtain ⟨h1, h2⟩ := numB_prefix h
    · obtain ⟨rfl, rfl⟩ := numB_prefix h2
      exact ⟨rfl, rfl⟩
    · omega
    · omega
    · omega
    · obtain ⟨rfl, rfl⟩ := textB_prefix h2
      exact ⟨rfl, rfl⟩
    · omega
    · omega
    · omega
    · obtain ⟨h3, h4⟩ := numB_prefix h2
      obtain ⟨rfl, rfl⟩ := hL l l' r q ih (by omega) hk hk' h4
      exact ⟨rfl, rfl⟩
end Go.Proofs.YtdlbpbglidhlfaaGreatDoor

namespace Go.Proofs.YtdlbpbglidhlfaaGreatDoor

/-- b begins with the bytes of the value v, no deeper than d, of at most 200 parts; they are j. -/
structure VReads (b : List UInt8) (d : Nat) (v : VD) (j : Nat) : Prop where
  kinds : v.kinds = true
  deep : v.deep ≤ d
  parts : v.parts ≤ 200
  fits : v.Fits
  len : j = v.bytes.length
  eq : b = v.bytes ++ b.drop j
def NoVal (b : List UInt8) (d : Nat) : Prop := ∀ v j, ¬ VReads b d v j
theorem VReads.of {b r : List UInt8} {d : Nat} {v : VD} (hk : v.kinds = true) (hd : v.deep ≤ d) (hp : v.parts ≤ 200) (hf : v.Fits) (h : b = v.bytes ++ r) : VReads b d v v.bytes.length := ⟨hk, hd, hp, hf, rfl, by rw [h]; simp⟩
theorem VReads.same {b : List UInt8} {d d' : Nat} {v w : VD} {i j : Nat} (h : VReads b d v i) (h' : VReads b d' w j) : v = w ∧ i = j := by
  obtain ⟨rfl, _⟩ := VD.bytes_prefix v w _ _ h.kinds h'.kinds (h.eq.symm.trans h'.eq)
  exact ⟨rfl, by rw [h.len, h'.len]⟩
theorem VReads.le {b : List UInt8} {d : Nat} {v : VD} {j : Nat} (h : VReads b d v j) : j ≤ b.length := by
  have := h.eq
  rw [h.len, this]; simp
theorem numB_small (k : Nat) (h : k ≤ 2) : InR ((k : Nat) : Int) := by unfold InR; omega
/-- It begins with its kind. -/
theorem VReads.kind {b : List UInt8} {d : Nat} {v : VD} {j : Nat} (h : VReads b d v j) : Reads b ((v.k : Nat) : Int) (numB ((v.k : Nat) : Int)).length ∧ v.k ≤ 2 := by
  have he := h.eq
  rcases VD.kinds_cases h.kinds with ⟨n, rfl⟩ | ⟨s, rfl, _⟩ | ⟨l, rfl, _⟩
  · exact ⟨Reads.of (r := numB n ++ b.drop j) (numB_small 0 (by omega)) (he.trans (by simp [VD.bytes, VD.k])), by simp [VD.k]⟩
  · exact ⟨Reads.of (r := textB s ++ b.drop j) (numB_small 1 (by omega)) (he.trans (by simp [VD.bytes, VD.k])), by simp [VD.k]⟩
  · have e : VD.bytes (.mk 2 0 [] l) = numB ((2 : Nat) : Int) ++ (numB ((l.length : Nat) : Int) ++ VD.bytesL l) := rfl
    exact ⟨Reads.of (r := (numB ((l.length : Nat) : Int) ++ VD.bytesL l) ++ b.drop j) (numB_small 2 (by omega)) (he.trans (by rw [e]; simp [VD.k])), by simp [VD.k]⟩
theorem noVal_num {b : List UInt8} {d : Nat} (h : NoNum b) : NoVal b d := fun _ _ hr => h _ _ hr.kind.1
theorem noVal_kind {b : List UInt8} {d : Nat} {x : Int} {k : Nat} (h : Reads b x k) (hx : x < 0 ∨ 2 < x) : NoVal b d := fun v j hr => by
  obtain ⟨h1, h2⟩ := hr.kind
  obtain ⟨e, _⟩ := h.same h1
  omega
theorem noVal_zero {b : List UInt8} : NoVal b 0 := fun v j hr => by have := hr.deep; have := v.deep_pos; omega
/-- A number, a text, a list behind the kind. -/
theorem VReads.behind {b : List UInt8} {d : Nat} {v : VD} {j : Nat} (h : VReads b d v j) {x : Int} {k : Nat} (hk : Reads b x k) : x = ((v.k : Nat) : Int) ∧ b.drop k ++ [] = (v.bytes.drop k ++ b.drop j) ++ [] := by
  obtain ⟨h1, h2⟩ := h.kind
  obtain ⟨rfl, rfl⟩ := hk.same h1
  refine ⟨rfl, ?_⟩
  simp only [List.append_nil]
  have he := h.eq
  have hl : (numB ((v.k : Nat) : Int)).length ≤ v.bytes.length := by
    rcases VD.kinds_cases h.kinds with ⟨n, rfl⟩ | ⟨s, rfl, _⟩ | ⟨l, rfl, _⟩
    · simp [VD.bytes, VD.k]
    · simp [VD.bytes, VD.k]
    · have e : VD.bytes (.mk 2 0 [] l) = numB ((2 : Nat) : Int) ++ (numB ((l.length : Nat) : Int) ++ VD.bytesL l) := rfl
      rw [e]; simp [VD.k]
  conv => { lhs; rw [he] }
  rw [List.drop_append_of_le_length hl]
theorem drop_numB {n : Int} {r : List UInt8} : (numB n ++ r).drop (numB n).length = r := List.drop_left' rfl
/-- A text. -/
theorem vreads_text {b : List UInt8} {d k j : Nat} {s : List UInt8} (h : Reads b 1 k) (ht : ReadsT (b.drop k) 100 s j) (hd : 1 ≤ d) : VReads b d (.mk 1 0 s []) (k + (j + s.length)) := by
  have h1 := ht.whole
  have h2 := h.eq
  have hs : s.length ≤ 100 := by have := ht.most; omega
  have e : b = VD.bytes (.mk 1 0 s []) ++ (b.drop k).drop (j + s.length) := by
    rw [VD.bytes, List.append_assoc, ← h1, ← h2]
  have := VReads.of (d := d) (v := .mk 1 0 s []) (r := (b.drop k).drop (j + s.length)) (by simp [VD.kinds]; exact hs) (by simp [VD.deep, VD.deepL]; exact hd) (by simp [VD.parts, VD.partsL]) (.mk _ _ _ _ (by unfold InR; omega) (fun x hx => by cases hx)) e
  have hl : (VD.bytes (.mk 1 0 s [])).length = k + (j + s.length) := by
    rw [VD.bytes, textB, List.length_append, List.length_append, ← h.len, ← ht.num.len]
  rwa [hl] at this
theorem noVal_text {b : List UInt8} {d k : Nat} (h : Reads b 1 k) (ht : NoText (b.drop k) 100) : NoVal b d := fun v j hr => by
  obtain ⟨h1, h2⟩ := hr.behind h
  simp only [List.append_nil] at h2
  rcases VD.kinds_cases hr.kinds with ⟨n, rfl⟩ | ⟨s, rfl, hs⟩ | ⟨l, rfl, _⟩
  · simp [VD.k] at h1
  · have e : (VD.bytes (.mk 1 0 s [])).drop k = textB s := by
      rw [VD.bytes, h.len]; exact drop_numB
    rw [e] at h2
    exact ht _ _ (ReadsT.of (s := s) (r := b.drop j) (most := 100) (by unfold InR; omega) (by omega) h2)
  · simp [VD.k] at h1
/-- A number. -/
theorem vreads_num {b : List UInt8} {d k j : Nat} {n : Int} (h : Reads b 0 k) (ht : Reads (b.drop k) n j) (hd : 1 ≤ d) : VReads b d (.mk 0 n [] []) (k + j) := by
  have h1 := ht.eq
  have h2 := h.eq
  have e : b = VD.bytes (.mk 0 n [] []) ++ (b.drop k).drop j := by
    rw [VD.bytes, List.append_assoc, ← h1, ← h2]
  have := VReads.of (d := d) (v := .mk 0 n [] []) (r := (b.drop k).drop j) (by simp [VD.kinds]) (by simp [VD.deep, VD.deepL]; exact hd) (by simp [VD.parts, VD.partsL]) (.mk _ _ _ _ ht.inr (fun x hx => by cases hx)) e
  have hl : (VD.bytes (.mk 0 n [] [])).length = k + j := by rw [VD.bytes, List.length_append, ← h.len, ← ht.len]
  rwa [hl] at this
/-- Neither a number nor a list has no number behind its kind. -/
theorem noVal_second {b : List UInt8} {d k : Nat} {x : Int} (h : Reads b x k) (hx : x ≠ 1) (ht : NoNum (b.drop k)) : NoVal b d := fun v j hr => by
  obtain ⟨h1, h2⟩ := hr.behind h
  simp only [List.append_nil] at h2
  rcases VD.kinds_cases hr.kinds with ⟨n, rfl⟩ | ⟨s, rfl, hs⟩ | ⟨l, rfl, hl, _⟩
  · have e : (VD.bytes (.mk 0 n [] [])).drop k = numB n := by rw [VD.bytes, h.len, h1]; exact drop_numB
    rw [e] at h2
    exact ht _ _ (Reads.of (r := b.drop j) hr.fits.n h2)
  · exact hx h1
  · have e : (VD.bytes (.mk 2 0 [] l)).drop k = numB ((l.length : Nat) : Int) ++ VD.bytesL l := by
      have e : VD.bytes (.mk 2 0 [] l) = numB ((2 : Nat) : Int) ++ (numB ((l.length : Nat) : Int) ++ VD.bytesL l) := rfl
      rw [e, h.len, h1]; exact drop_numB
    rw [e, List.append_assoc] at h2
    exact ht _ _ (Reads.of (r := VD.bytesL l ++ b.drop j) (by unfold InR; omega) h2)
/-- What a list's bytes are. -/
theorem VReads.list {b : List UInt8} {d k i j : Nat} {n : Int} {v : VD} (hr : VReads b d v j) (h : Reads b 2 k) (ht : Reads (b.drop k) n i) : ∃ l, v = .mk 2 0 [] l ∧ n = ((l.length : Nat) : Int) ∧ l.length ≤ 40 ∧ (∀ x ∈ l, x.kinds = true) ∧ b.drop (k + i) = VD.bytesL l ++ b.drop j := by
  obtain ⟨h1, h2⟩ := hr.behind h
  simp only [List.append_nil] at h2
  rcases VD.kinds_cases hr.kinds with ⟨n', rfl⟩ | ⟨s, rfl, hs⟩ | ⟨l, rfl, hl, hk⟩
  · simp [VD.k] at h1
  · simp [VD.k] at h1
  · have e : (VD.bytes (.mk 2 0 [] l)).drop k = numB ((l.length : Nat) : Int) ++ VD.bytesL l := by
      have e : VD.bytes (.mk 2 0 [] l) = numB ((2 : Nat) : Int) ++ (numB ((l.length : Nat) : Int) ++ VD.bytesL l) := rfl
      rw [e, h.len]; exact drop_numB
    rw [e, List.append_assoc] at h2
    have h3 := Reads.of (r := VD.bytesL l ++ b.drop j) (n := ((l.length : Nat) : Int)) (by unfold InR; omega) h2
    obtain ⟨rfl, rfl⟩ := ht.same h3
    refine ⟨l, rfl, rfl, hl, hk, ?_⟩
    rw [← List.drop_drop, h2]
    exact drop_numB
theorem noVal_count {b : List UInt8} {d k i : Nat} {n : Int} (h : Reads b 2 k) (ht : Reads (b.drop k) n i) (hn : n < 0 ∨ 40 < n) : NoVal b d := fun v j hr => by
  obtain ⟨l, _, h1, h2, _⟩ := hr.list h ht
  omega
/-- A list that is read as far as this. -/
structure Listed (b : List UInt8) (d : Nat) (at0 : Nat) (q : List VD) (at1 : Nat) : Prop where
  kinds : ∀ x ∈ q, x.kinds = true
  deep : ∀ x ∈ q, x.deep ≤ d
  fits : ∀ x ∈ q, x.Fits
  eq : b.drop at0 = VD.bytesL q ++ b.drop at1
  len : at1 = at0 + (VD.bytesL q).length
theorem Listed.nil (b : List UInt8) (d at0 : Nat) : Listed b d at0 [] at0 := ⟨fun x hx => (by cases hx), fun x hx => (by cases hx), fun x hx => (by cases hx), by simp [VD.bytesL], by simp [VD.bytesL]⟩
theorem Listed.snoc {b : List UInt8} {d a0 a1 j : Nat} {q : List VD} {x : VD} (h : Listed b d a0 q a1) (hx : VReads (b.drop a1) d x j) : Listed b d a0 (q ++ [x]) (a1 + j) := by
  refine ⟨fun y hy => ?_, fun y hy => ?_, fun y hy => ?_, ?_, ?_⟩
  · rcases List.mem_append.1 hy with h1 | h1
    · exact h.kinds y h1
    · rw [List.mem_singleton.1 h1]; exact hx.kinds
  · rcases List.mem_append.1 hy with h1 | h1
    · exact h.deep y h1
    · rw [List.mem_singleton.1 h1]; exact hx.deep
  · rcases List.mem_append.1 hy with h1 | h1
    · exact h.fits y h1
    · rw [List.mem_singleton.1 h1]; exact hx.fits
  · rw [VD.bytesL_append, h.eq, List.append_assoc]
    congr 1
    rw [← List.drop_drop]
    have := hx.eq
    simpa [VD.bytesL] using this
  · rw [VD.bytesL_append, List.length_append, h.len, hx.len]
    simp [VD.bytesL]
    omega
/-- It is the begin of any list that the bytes are. -/
theorem Listed.begin {b : List UInt8} {d a0 a1 : Nat} : ∀ {q l : List VD} {r : List UInt8}, Listed b d a0 q a1 → (∀ x ∈ l, x.kinds = true) → q.length ≤ l.length → b.drop a0 = VD.bytesL l ++ r → ∃ p, l = q ++ p ∧ b.drop a1 = VD.bytesL p ++ r := by
  intro q l r h hl hq he
  have key : ∀ (q l : List VD) (s : List UInt8), (∀ x ∈ q, x.kinds = true) → (∀ x ∈ l, x.kinds = true) → q.length ≤ l.length → VD.bytesL q ++ s = VD.bytesL l ++ r → ∃ p, l = q ++ p ∧ s = VD.bytesL p ++ r := by
    intro q
    induction q with
    | nil => intro l s _ _ _ h; exact ⟨l, rfl, by simpa [VD.bytesL] using h⟩
    | cons x q ih =>
      intro l s hq hl hlen h
      match l, hlen with
      | y :: l, hlen =>
        simp only [VD.bytesL, List.append_assoc] at h
        obtain ⟨rfl, h2⟩ := VD.bytes_prefix x y _ _ (hq x (by simp)) (hl y (by simp)) h
        obtain ⟨p, rfl, hp⟩ := ih l s (fun z hz => hq z (by simp [hz])) (fun z hz => hl z (by simp [hz])) (by simpa using hlen) h2
        exact ⟨p, rfl, hp⟩
  exact key q l _ h.kinds hl hq (h.eq.symm.trans he)
theorem noVal_next {b : List UInt8} {d k i a1 : Nat} {n : Nat} {q : List VD} (h : Reads b 2 k) (ht : Reads (b.drop k) ((n : Nat) : Int) i) (hL : Listed b d (k + i) q a1) (hq : q.length < n) (hN : NoVal (b.drop a1) d) : NoVal b (d + 1) := fun v j hr => by
  obtain ⟨l, rfl, h1, h2, h3, h4⟩ := hr.list h ht
  have hln : n = l.length := by omega
  obtain ⟨p, rfl, hp⟩ := hL.begin h3 (by omega) h4
  match p, hp, hln with
  | [], _, hln => simp at hln; omega
  | x :: p, hp, _ =>
    simp only [VD.bytesL, List.append_assoc] at hp
    have hd := hr.deep
    rw [VD.deep_mk] at hd
    have hxm : x ∈ q ++ x :: p := by simp
    have hpp := hr.parts
    rw [VD.parts_mk] at hpp
    exact hN _ _ (VReads.of (h3 x hxm) (by have := VD.deep_mem hxm; simp only [VD.l] at hd; omega) (by have := VD.parts_mem hxm; simp only [VD.l] at hpp; omega) (hr.fits.mem hxm) hp)
theorem noVal_parts {b : List UInt8} {d k i a1 : Nat} {n : Nat} {q : List VD} (h : Reads b 2 k) (ht : Reads (b.drop k) ((n : Nat) : Int) i) (hL : Listed b d (k + i) q a1) (hq : q.length ≤ n) (hN : 200 < VD.partsL q + 1) : NoVal b (d + 1) := fun v j hr => by
  obtain ⟨l, rfl, h1, h2, h3, h4⟩ := hr.list h ht
  obtain ⟨p, rfl, hp⟩ := hL.begin h3 (by omega) h4
  have hpp := hr.parts
  rw [VD.parts_mk] at hpp
  simp only [VD.l, VD.partsL_append] at hpp
  omega
theorem vreads_list {b : List UInt8} {d k i a1 : Nat} {q : List VD} (h : Reads b 2 k) (ht : Reads (b.drop k) ((q.length : Nat) : Int) i) (hL : Listed b d (k + i) q a1) (hq : q.length ≤ 40) (hN : VD.partsL q + 1 ≤ 200) : VReads b (d + 1) (.mk 2 0 [] q) a1 := by
  have e0 : VD.bytes (.mk 2 0 [] q) = numB ((2 : Nat) : Int) ++ (numB ((q.length : Nat) : Int) ++ VD.bytesL q) := rfl
  have e : b = VD.bytes (.mk 2 0 [] q) ++ b.drop a1 := by
    rw [e0, List.append_assoc, List.append_assoc, ← hL.eq, ← List.drop_drop, ← ht.eq]
    exact h.eq
  have := VReads.of (d := d + 1) (v := .mk 2 0 [] q) (r := b.drop a1) (by simp [VD.kinds, hq]; exact (VD.kindsL_iff q).2 hL.kinds) (by rw [VD.deep_mk]; have := VD.deepL_le hL.deep; simp only [VD.l]; omega) (by rw [VD.parts_mk]; exact hN) (.mk _ _ _ _ (by unfold InR; omega) hL.fits) e
  have hl : (VD.bytes (.mk 2 0 [] q)).length = a1 := by
    have hk := h.len
    have hi := ht.len
    rw [e0, List.length_append, List.length_append, hL.len, hk, hi]
    have : ((2 : Nat) : Int) = 2 := rfl
    rw [this]
    omega
  rwa [hl] at this
end Go.Proofs.YtdlbpbglidhlfaaGreatDoor
