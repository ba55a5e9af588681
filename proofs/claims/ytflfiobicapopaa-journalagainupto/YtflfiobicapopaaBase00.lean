/- Mem, Gen, GenOwn, CrcMath, HeadMath, HeadRef, GenStep, HeadRef2: our own definitions and contracts; no statement of the seat is proved here. -/
import Derived.Test.YtflfiobicapopaaProg
import Derived.WalkKit
import Derived.WalkSpells
import Derived.WalkLawsBesides
import Derived.LaidEqlPtr
import Derived.Deep.MidRow
import Derived.Deep.RegionWith
import Derived.Deep.QuietTactic
import Derived.BigQuiet
import Derived.BigRegion
import Derived.LoopN
import Derived.Deep.DeepCutAuto
import Derived.Deep.RegionHeld3
import Derived.Laws.CopyOwn
import Derived.Laws.EntriesVeiled
import Derived.Laws.BitsAllLaws
namespace Go.Proofs.Ytflfiobicapopaa
open Go.RowKit

/-- A byte as a cell. -/
def bv (b : UInt8) : Value := .int .u8 b.toNat

theorem bv_one (bs : List UInt8) : ∀ u ∈ bs.map bv, u.oneCell' = true := by
  intro u hu
  obtain ⟨_, _, rfl⟩ := List.mem_map.1 hu
  rfl

/-- The slice value u reads as the bytes bs. -/
def Bytes (w : World) (u : Value) (bs : List UInt8) : Prop :=
  (u = .slice none 0 0 ∧ bs = []) ∨ ∃ a c, u = .slice (some a) bs.length c ∧ bs.length ≤ c ∧ c ≤ maxLen ∧ ∀ j x, (bs.map bv)[j]? = some x → w.cell? (a.add j) = some x

theorem add_block (a : Addr) (j : Nat) : (a.add j).block = a.block := by unfold Addr.add; split <;> rfl

/-- Blocks outside D that were there are as they were; what is owned behind is of D, or new. -/
structure Step (D D' : Nat → Prop) (w w' : World) : Prop where
  os : w'.os = w.os
  tape : w'.tape = w.tape
  output : w'.output = w.output
  size : w.heap.size ≤ w'.heap.size
  block : ∀ k, k < w.heap.size → ¬ D k → w'.heap[k]? = w.heap[k]?
  own : ∀ k, D' k → D k ∨ w.heap.size ≤ k

theorem Step.refl (D : Nat → Prop) (w : World) : Step D D w w := ⟨rfl, rfl, rfl, Nat.le_refl _, fun _ _ _ => rfl, fun _ h => .inl h⟩

theorem Step.trans {D E F : Nat → Prop} {a b c : World} (h : Step D E a b) (k : Step E F b c) : Step D F a c := by
  refine ⟨k.os.trans h.os, k.tape.trans h.tape, k.output.trans h.output, Nat.le_trans h.size k.size, fun i hi hn => ?_, fun i hi => ?_⟩
  · rw [k.block i (Nat.lt_of_lt_of_le hi h.size) (fun he => ?_), h.block i hi hn]
    rcases h.own i he with h1 | h1
    · exact hn h1
    · omega
  · rcases k.own i hi with h1 | h1
    · exact h.own i h1
    · exact .inr (Nat.le_trans h.size h1)

theorem Step.drew {D E : Nat → Prop} {a b : World} (h : Step D E a b) : Step D E a b.drew := ⟨h.os, h.tape, h.output, h.size, h.block, h.own⟩

theorem Step.drewL {D E : Nat → Prop} {a b : World} (h : Step D E a.drew b) : Step D E a b := ⟨h.os, h.tape, h.output, h.size, h.block, h.own⟩

theorem Step.alloc {D E : Nat → Prop} {a b : World} (h : Step D E a b) (o : Obj) : Step D E a (b.alloc o) :=
  h.trans ⟨rfl, rfl, rfl, by simp, fun k hk _ => Below.heap_alloc _ _ _ hk, fun _ h => .inl h⟩

theorem Step.setCell {D E : Nat → Prop} {a b : World} (h : Step D E a b) {p : Addr} (hp : E p.block) (u : Value) : Step D E a (b.setCell p u) :=
  h.trans ⟨rfl, rfl, rfl, by simp [World.setCell], fun k _ hn => Below.heap_setCell _ _ _ _ (fun e => hn (e ▸ hp)), fun _ h => .inl h⟩

/-- A store into a block that is new since. -/
theorem Step.setNew {D E : Nat → Prop} {a b : World} (h : Step D E a b) {p : Addr} (hp : a.heap.size ≤ p.block) (u : Value) : Step D E a (b.setCell p u) := by
  refine ⟨h.os, h.tape, h.output, by simpa [World.setCell] using h.size, fun k hk hn => ?_, h.own⟩
  rw [Below.heap_setCell _ _ _ _ (by omega)]
  exact h.block k hk hn

/-- What is owned may be forgotten in part, and the new blocks may be added. -/
theorem Step.owns {D E E' : Nat → Prop} {a b : World} (h : Step D E a b) (hE : ∀ k, E' k → D k ∨ a.heap.size ≤ k) : Step D E' a b := ⟨h.os, h.tape, h.output, h.size, h.block, hE⟩

/-- More may turn. -/
theorem Step.wider {D D' E : Nat → Prop} {a b : World} (h : Step D E a b) (hD : ∀ k, D k → D' k) : Step D' E a b :=
  ⟨h.os, h.tape, h.output, h.size, fun k hk hn => h.block k hk (fun x => hn (hD k x)), fun k hk => (h.own k hk).imp (hD k) id⟩

theorem Step.below {D E : Nat → Prop} {a b : World} (h : Step D E a b) {B : Nat} (hB : B ≤ a.heap.size) (hD : ∀ k, D k → B ≤ k) : Below B a b :=
  ⟨h.os, h.tape, h.output, h.size, fun k hk => h.block k (by omega) (fun hd => by have := hD k hd; omega)⟩

theorem Step.cell {D E : Nat → Prop} {a b : World} (h : Step D E a b) {p : Addr} {v : Value} (hc : a.cell? p = some v) (hn : ¬ D p.block) : b.cell? p = some v := by
  rw [World.cell?_of_block (h.block p.block (World.block_lt_of_cell? a p hc) hn)]; exact hc

theorem Step.frozen {D E : Nat → Prop} {a b : World} (h : Step D E a b) {p : Addr} (hp : p.block < a.heap.size) (hn : ¬ D p.block) : b.frozen? p = a.frozen? p :=
  World.frozen?_of_block (h.block p.block hp hn)

theorem Step.range {D E : Nat → Prop} {a b : World} (h : Step D E a b) {q o : Nat} {cs : List Value} (hc : a.rangeAt q o cs) (hn : ¬ D q) : b.rangeAt q o cs :=
  fun j v hv => h.cell (hc j v hv) hn

theorem Step.bytes {D E : Nat → Prop} {a b : World} (h : Step D E a b) {u : Value} {bs : List UInt8} (hb : Bytes a u bs) (hn : bs ≠ [] → ∀ k, u.ownBlock = some k → ¬ D k) : Bytes b u bs := by
  rcases hb with hb | ⟨q, c, rfl, h1, h2, hr⟩
  · exact .inl hb
  · exact .inr ⟨q, c, rfl, h1, h2, fun j x hx => h.cell (hr j x hx) (by rw [add_block]; exact hn (fun e => by rw [e] at hx; cases hx) _ rfl)⟩

/-- A block that is written out in the grown world. -/
theorem Bytes.lt {w : World} {u : Value} {bs : List UInt8} (h : Bytes w u bs) (hne : bs ≠ []) : ∀ k, u.ownBlock = some k → k < w.heap.size := by
  intro k hk
  rcases h with ⟨rfl, _⟩ | ⟨q, c, rfl, _, _, hr⟩
  · cases hk
  · simp [Value.ownBlock] at hk
    subst hk
    cases bs with
    | nil => exact absurd rfl hne
    | cons x r => have := World.block_lt_of_cell? w _ (hr 0 (bv x) rfl); rwa [add_block] at this

/-- Behind whatever leaves the block alone. -/
theorem Bytes.kept {w w' : World} {u : Value} {bs : List UInt8} (h : Bytes w u bs) (hk : ∀ k, u.ownBlock = some k → k < w.heap.size → w'.heap[k]? = w.heap[k]?) : Bytes w' u bs := by
  rcases h with h | ⟨q, c, rfl, h1, h2, hr⟩
  · exact .inl h
  · refine .inr ⟨q, c, rfl, h1, h2, fun j v hv => ?_⟩
    have h3 := hr j v hv
    have h4 := World.block_lt_of_cell? w _ h3
    rw [add_block] at h4
    rw [World.cell?_of_block (w := w) (w' := w') (a := q.add j) (by rw [add_block]; exact hk _ rfl h4)]; exact h3

theorem Bytes.alloc {w : World} {u : Value} {bs : List UInt8} (h : Bytes w u bs) (o : Obj) : Bytes (w.alloc o) u bs := h.kept fun _ _ hk => Below.heap_alloc _ _ _ hk
theorem Bytes.drew {w : World} {u : Value} {bs : List UInt8} (h : Bytes w u bs) : Bytes w.drew u bs := h.kept fun _ _ _ => rfl

/-- An owned row of bytes, read. -/
theorem bytes_of_owns {w : World} {e : TypeId} {v : Value} {bs : List UInt8} (h : w.ownsRow 0 e 1 v bs.length (bs.map bv)) : Bytes w v bs := by
  have h0 := h
  rcases h.2 with ⟨rfl, hn⟩ | ⟨g, cap, cur, rfl, _, hg, hn, hm, _, _⟩
  · exact .inl ⟨rfl, List.eq_nil_of_length_eq_zero hn⟩
  · exact .inr ⟨⟨g, 0, none⟩, cap, rfl, hn, hm, fun j u hu => h0.cells (g := g) rfl j u hu⟩

/-- 'append' of bytes onto an owned row of bytes: the row goes on in its block, or in a new one. -/
theorem run_append_bytes {P : Program} (w : World) (t ty e : TypeId) (i : TypeInfo) (z : Value) (ht : P.underlying t = some (.slice e)) (hi : P.info? e = some i) (hz : i.zero = some z) (hs : i.size = 1) (hb : i.bytes = 1) (hzs : z.cells.size = 1)
    (v : Value) (xs : List UInt8) (hown : w.ownsRow 0 e 1 v xs.length (xs.map bv)) (u : Value) (bs : List UInt8) (hu : Bytes w u bs) (hl : xs.length + bs.length ≤ 140737488355328) :
    ∃ v' w', (Builtin.append_ #[t, t] ty #[v, u]).run P w = .ok v' w' ∧ w'.ownsRow 0 e 1 v' (xs ++ bs).length ((xs ++ bs).map bv) ∧ w.grownBy w' v.ownBlock ∧
      (v'.ownBlock = v.ownBlock ∨ ∃ k, v'.ownBlock = some k ∧ w.heap.size ≤ k) := by
  have hmx : xs.length + bs.length ≤ maxLen := by unfold maxLen; omega
  rcases hu with ⟨rfl, rfl⟩ | ⟨ad, c, rfl, hlc, _, hr⟩
  · exact ⟨v, w, run_append_owned_none (P := P) w 0 t ty e i 1 ht hi v xs.length (xs.map bv) hown, by simpa using hown, World.grownBy.refl _ _, .inl rfl⟩
  · have hc := hr
    have hln : (bs.map bv).length = bs.length * 1 := by simp
    rcases hown.2 with ⟨rfl, hn⟩ | ⟨g, cap, cur, rfl, hb0, hg, hnc, hcm, hcs, htk⟩
    · have hx : xs = [] := List.eq_nil_of_length_eq_zero hn
      subst hx
      obtain ⟨v', w', hrun, r1, r2, _⟩ := run_append_own (P := P) w w.heap.size t ty e i z 1 1 ht hi hz hs hb hzs (by decide) (.slice none 0 0) 0 [] (World.ownsRow_nil w _ e 1) ad bs.length c (bs.map bv) hln hc (bv_one bs) (by simpa using hmx) (by simpa using hl) (Nat.le_refl _)
      have r1' := r1
      refine ⟨v', w', hrun, ⟨by simp, ?_⟩, r2, ?_⟩
      · rcases r1.2 with ⟨h1, h2⟩ | ⟨g, cap, cur, h1, h2, h3, h4, h5, h6, h7⟩
        · exact .inl ⟨h1, by simpa using h2⟩
        · exact .inr ⟨g, cap, cur, by simpa using h1, Nat.zero_le _, h3, by simpa using h4, h5, h6, by simpa using h7⟩
      · rcases r1.2 with ⟨h1, h2⟩ | ⟨g, cap, cur, h1, h2, _⟩
        · exact .inl (by rw [h1])
        · exact .inr ⟨g, by rw [h1]; rfl, h2⟩
    · by_cases hroom : xs.length + bs.length ≤ cap
      · obtain ⟨w', hrun, r1, r2⟩ := run_append_fits (P := P) w 0 t ty e i 1 ht hi hs g xs.length cap (xs.map bv) hown ad bs.length c (bs.map bv) hln hc (bv_one bs) hroom
        exact ⟨_, w', hrun, by simpa using r1, r2, .inl rfl⟩
      · have hold : ∀ j x, (xs.map bv)[j]? = some x → w.cell? ((⟨g, 0, none⟩ : Addr).add j) = some x := hown.cells (g := g) rfl
        obtain ⟨v', w', hrun, r1, r2⟩ := run_append_arg_grows (P := P) w t ty e i z 1 1 ht hi hz hs hb hzs (by decide) ⟨g, 0, none⟩ xs.length cap (xs.map bv) (by simp) hold ad bs.length c (bs.map bv) hln hc (by omega) hmx (by simpa using hl)
        have r3 : w.grownBy w' (some g) := ⟨r2.os, r2.tape, r2.output, r2.size, fun k hk _ => r2.block k hk (by simp)⟩
        refine ⟨v', w', hrun, ⟨by simp, ?_⟩, r3, ?_⟩
        · rcases r1.2 with ⟨h1, h2⟩ | ⟨g', cap', cur', h1, h2, h3, h4, h5, h6, h7⟩
          · exact .inl ⟨h1, by simpa using h2⟩
          · exact .inr ⟨g', cap', cur', by simpa using h1, Nat.zero_le _, h3, by simpa using h4, h5, h6, by simpa using h7⟩
        · rcases r1.2 with ⟨h1, h2⟩ | ⟨g', cap', cur', h1, h2, _⟩
          · have : 0 < xs.length + bs.length := by omega
            omega
          · exact .inr ⟨g', by rw [h1]; rfl, h2⟩

/-- The same at the walk's list of operations. -/
theorem wpList_append_bytes {P : Program} (w : World) {ops : Array Oper} {rest : List Oper} {op : Oper} {a : Act} {Q : Exit → Act → World → Prop}
    (hg : op.guard = none) (s x : Operand) (t : TypeId) (hop : op.op = Op.call { callee := Callee.builtin Builtin.append, args := #[s, x], argTypes := #[t, t] })
    (e : TypeId) (i : TypeInfo) (z : Value) (ht : P.underlying t = some (.slice e)) (hi : P.info? e = some i) (hz : i.zero = some z) (hs : i.size = 1) (hb : i.bytes = 1) (hzs : z.cells.size = 1)
    (v : Value) (xs : List UInt8) (hsv : a.eval s = v) (hown : w.ownsRow 0 e 1 v xs.length (xs.map bv)) (u : Value) (bs : List UInt8) (hxu : a.eval x = u) (hu : Bytes w u bs) (hl : xs.length + bs.length ≤ 140737488355328)
    (hK : ∀ v' w', w'.ownsRow 0 e 1 v' (xs ++ bs).length ((xs ++ bs).map bv) → w.grownBy w' v.ownBlock → (v'.ownBlock = v.ownBlock ∨ ∃ k, v'.ownBlock = some k ∧ w.heap.size ≤ k) → wpList P ops Q rest (a.put op.dst v') w') :
    wpList P ops Q (op :: rest) a w := by
  refine wpList_plain hg fun K hK' => ?_
  obtain ⟨v', w', hrun, r1, r2, r3⟩ := run_append_bytes (P := P) w t op.type e i z ht hi hz hs hb hzs v xs hown u bs hu hl
  unfold Oper.wp
  simp [execOp, hop, resolve, invoke, builtin, hsv, hxu, hrun, Result.andThen]
  exact hK' _ _ (hK v' w' r1 r2 r3)

/-- Bytes as a string. -/
theorem run_convert_bytes {P : Program} (w : World) (src dst e : TypeId) (hs : P.underlying src = some (.slice e)) (he : P.underlying e = some (.int .u8)) (hd : P.underlying dst = some .string)
    (u : Value) (bs : List UInt8) (hu : Bytes w u bs) : (convert src dst u).run P w = .ok (.string ⟨bs.toArray⟩) w := by
  rcases hu with ⟨rfl, rfl⟩ | ⟨ad, c, rfl, _, _, hr⟩
  · rw [run_convert_bytes_string w src dst e none 0 0 hs he hd]
    simp [Conv.bytesToString, Sem.run_pure]
    rfl
  · rw [run_convert_bytes_string w src dst e _ _ _ hs he hd]
    have hl : (loadCells ad bs.length).run P w = .ok ((bs.map fun x => (x.toNat : Int)).map (Value.int .u8)).toArray w := by
      have := run_loadCells_list (P := P) w ad (bs.map bv) hr
      rw [List.length_map] at this
      rw [List.map_map]
      exact this
    rw [run_bytesToString w ad bs.length c _ hl]
    congr 2
    have : ∀ (l : List UInt8) (s : ByteArray), (l.map fun x => (x.toNat : Int)).foldl (fun r n => r.push (UInt8.ofNat n.toNat)) s = ⟨s.data ++ l.toArray⟩ := by
      intro l
      induction l with
      | nil => intro s; simp
      | cons x l ih =>
        intro s
        simp only [List.map_cons, List.foldl_cons]
        rw [ih]
        simp [ByteArray.push]
    rw [this]
    simp [ByteArray.empty, ByteArray.emptyWithCapacity]
    rfl

end Go.Proofs.Ytflfiobicapopaa

namespace Go.Proofs.Ytflfiobicapopaa
open Go.RowKit

theorem ret_int {k : IntKind} {a b : Int} (h : a = b) : Ending.returned (.int k a) = .returned (.int k b) := by rw [h]
theorem ret_bool {a b : Bool} (h : a = b) : Ending.returned (.bool a) = .returned (.bool b) := by rw [h]
theorem hide {q : Prop} (h : q) : Hid q := h
theorem unhide {q : Prop} (h : Hid q) : q := h
theorem infoByte0 : (Try.prog.info? 5).map (fun i => (i.zero, i.size, i.bytes)) = some (some (.int .u8 0), 1, 1) := by kernel_rfl
theorem infoByte : ∃ i, Try.prog.info? 5 = some i ∧ i.zero = some (.int .u8 0) ∧ i.size = 1 ∧ i.bytes = 1 := info_parts infoByte0

/-- min of two numbers, in one way. -/
theorem wpList_min2 {P : Program} {w : World} {ops : Array Oper} {rest : List Oper} {op : Oper} {a : Act} {Q : Exit → Act → World → Prop} (hgd : op.guard = none) (x y : Operand) (t s : TypeId)
    (ho : op.op = .call { callee := .builtin .min, args := #[x, y], argTypes := #[t, s] }) (k k' : IntKind) (m n : Int) (hx : a.eval x = .int k m) (hy : a.eval y = .int k' n)
    (h : wpList P ops Q rest (a.put op.dst (.int k (min m n))) w) : wpList P ops Q (op :: rest) a w := by
  refine wpList_plain hgd fun K hK => ?_
  have hrun : (Builtin.min_ #[t, s] op.type #[.int k m, .int k' n]).run P w = .ok (.int k (min m n)) w := by
    rw [run_min_int2]; congr 2; split <;> omega
  unfold Oper.wp
  simp [execOp, ho, resolve, invoke, builtin, hx, hy, hrun, Result.andThen]
  exact hK _ _ h

theorem Bytes.form {w : World} {u : Value} {bs : List UInt8} (h : Bytes w u bs) : ∃ a c, u = .slice a bs.length c ∧ bs.length ≤ c := by
  rcases h with ⟨rfl, rfl⟩ | ⟨a, c, rfl, hl, _⟩
  · exact ⟨_, _, rfl, Nat.le_refl _⟩
  · exact ⟨_, _, rfl, hl⟩
theorem bytes_len {w : World} {a : Option Addr} {n c : Nat} {bs : List UInt8} (h : Bytes w (.slice a n c) bs) : bs.length = n ∧ n ≤ c := by
  obtain ⟨_, _, hv, hl⟩ := h.form
  simp only [Value.slice.injEq] at hv
  obtain ⟨_, rfl, rfl⟩ := hv
  exact ⟨rfl, hl⟩
theorem Bytes.max {w : World} {u : Value} {bs : List UInt8} (h : Bytes w u bs) : bs.length ≤ 140737488355328 ∨ bs.length ≤ maxLen := by
  rcases h with ⟨_, rfl⟩ | ⟨a, c, _, hl, hm, _⟩
  · exact .inl (by simp)
  · exact .inr (by omega)
theorem Bytes.take {w : World} {a : Option Addr} {n c m : Nat} {bs : List UInt8} (h : Bytes w (.slice a n c) bs) (hm : m ≤ n) (hl : bs.length = n) : Bytes w (.slice a m c) (bs.take m) := by
  have hlt : (bs.take m).length = m := by rw [List.length_take]; omega
  rcases h with ⟨hv, rfl⟩ | ⟨ad, c', hv, hl1, hl2, hr⟩
  · simp only [Value.slice.injEq] at hv
    obtain ⟨rfl, rfl, rfl⟩ := hv
    have : m = 0 := by omega
    subst this
    exact .inl ⟨rfl, by simp⟩
  · simp only [Value.slice.injEq] at hv
    obtain ⟨rfl, _, rfl⟩ := hv
    refine .inr ⟨ad, c, by rw [hlt], by omega, hl2, fun j x hx => hr j x ?_⟩
    rw [List.map_take, List.getElem?_take] at hx
    split at hx
    · exact hx
    · cases hx
/-- A byte of a slice. -/
theorem Bytes.at {w : World} {a : Option Addr} {n c : Nat} {bs : List UInt8} (h : Bytes w (.slice a n c) bs) {i : Nat} (hi : i < n) (hl : bs.length = n) : ∃ ad, a = some ad ∧ w.cell? (ad.add i) = some (.int .u8 ((bs.getD i 0).toNat : Nat)) := by
  rcases h with ⟨hv, rfl⟩ | ⟨ad, c', hv, hl1, hl2, hr⟩
  · simp only [Value.slice.injEq] at hv
    omega
  · simp only [Value.slice.injEq] at hv
    obtain ⟨rfl, _, rfl⟩ := hv
    refine ⟨ad, rfl, hr i _ ?_⟩
    rw [List.getElem?_map, List.getElem?_eq_getElem (by omega), List.getD_eq_getElem?_getD, List.getElem?_eq_getElem (by omega)]
    rfl

/-- r holds the bytes, in a block that is new since w. -/
def Fresh (w w' : World) (r : Value) (bs : List UInt8) : Prop := Bytes w' r bs ∧ (∀ k, r.ownBlock = some k → w.heap.size ≤ k ∧ k < w'.heap.size) ∧ Below w.heap.size w w'

theorem own_keeps {W W' : World} {e : TypeId} {v : Value} {n : Nat} {xs : List Value} (h : W.ownsRow 0 e 1 v n xs) (hk : ∀ k, v.ownBlock = some k → W'.heap[k]? = W.heap[k]?) : W'.ownsRow 0 e 1 v n xs := by
  refine ⟨h.1, ?_⟩
  rcases h.2 with hn | ⟨g, cap, cur, hv, hb0, hg, rest⟩
  · exact .inl hn
  · refine .inr ⟨g, cap, cur, hv, hb0, ?_, rest⟩
    rw [hk g (by rw [hv]; rfl)]; exact hg

/-- A byte of an owned row, read and written. -/
theorem own_at {W : World} {a : Option Addr} {n c : Nat} {bs : List UInt8} (h : W.ownsRow 0 5 1 (.slice a n c) bs.length (bs.map bv)) (hl : bs.length = n) {k : Nat} (hk : k < n) : ∃ b, a = some ⟨b, 0, none⟩ ∧ W.cell? ⟨b, k, none⟩ = some (.int .u8 ((bs.getD k 0).toNat : Nat)) ∧ W.frozen? ⟨b, k, none⟩ = false ∧
    ∀ y : UInt8, (W.setCell ⟨b, k, none⟩ (.int .u8 (y.toNat : Nat))).ownsRow 0 5 1 (.slice a n c) (bs.set k y).length ((bs.set k y).map bv) := by
  have h0 := h
  subst hl
  rcases h.2 with ⟨hv, hn⟩ | ⟨g, cap, cur, hv, hb0, hg, hn, hm, hcs, htk⟩
  · omega
  · simp only [Value.slice.injEq] at hv
    obtain ⟨rfl, _, rfl⟩ := hv
    have hx : (bs.map bv)[k]? = some (bv (bs.getD k 0)) := by rw [List.getElem?_map, List.getElem?_eq_getElem hk, List.getD_eq_getElem?_getD, List.getElem?_eq_getElem hk]; rfl
    have hc := h0.cells (g := g) rfl k _ hx
    refine ⟨g, rfl, ?_, frozen_of_row _ _ _ _ _ hg, fun y => ⟨by simp, .inr ⟨g, c, cur.setIfInBounds k (.int .u8 (y.toNat : Nat)), by simp, hb0, ?_, by simpa using hn, hm, by simpa using hcs, ?_⟩⟩⟩
    · have hc' : W.cell? ⟨g, k, none⟩ = some (bv (bs.getD k 0)) := by simpa [Addr.add_mid] using hc
      exact hc'
    · rw [heap_setCell_same _ _ _ _ _ _ hg]
    · simp only [Nat.mul_one, List.length_set] at htk ⊢
      rw [Array.toList_setIfInBounds, show (Value.int .u8 (y.toNat : Nat)) = bv y from rfl, List.map_set, ← htk, List.take_set]

/-- The empty row that 'append([]byte..)' begins with. -/
theorem own_nil (w : World) : (w.alloc (.cells #[] 5)).ownsRow 0 5 1 (.slice (some ⟨w.heap.size, 0, none⟩) 0 0) ([] : List UInt8).length (([] : List UInt8).map bv) :=
  ⟨by simp, .inr ⟨w.heap.size, 0, #[], rfl, Nat.zero_le _, heap_alloc_new w _, Nat.le_refl _, by decide, rfl, by simp⟩⟩
end Go.Proofs.Ytflfiobicapopaa

namespace Go.Proofs.Ytflfiobicapopaa
open Go.RowKit

/-- Fresh, and a row of its own. -/
def FreshO (w w' : World) (r : Value) (bs : List UInt8) : Prop := Fresh w w' r bs ∧ w'.ownsRow 0 5 1 r bs.length (bs.map bv)

/-- Where append of bytes onto the empty row, or onto such a row, leads. -/
theorem grown_below {w W W' : World} {v v' : Value} (hb : Below w.heap.size w W) (hv : ∀ k, v.ownBlock = some k → w.heap.size ≤ k) (hg : W.grownBy W' v.ownBlock) (hn : v'.ownBlock = v.ownBlock ∨ ∃ k, v'.ownBlock = some k ∧ W.heap.size ≤ k) : Below w.heap.size w W' ∧ ∀ k, v'.ownBlock = some k → w.heap.size ≤ k :=
  ⟨hb.grown hg hb.size hv, fun k hk => by
    rcases hn with e | ⟨k', e, hle⟩
    · rw [e] at hk; exact hv k hk
    · rw [e] at hk; cases hk; have := hb.size; omega⟩

theorem below_drewN (w : World) (n : Nat) : Below w.heap.size w (w.drewN n) := ⟨rfl, rfl, rfl, Nat.le_refl _, fun _ _ => rfl⟩
theorem own_none (w : World) : w.ownsRow 0 5 1 (.slice none 0 0) ([] : List UInt8).length (([] : List UInt8).map bv) := ⟨by simp, .inl ⟨rfl, rfl⟩⟩
/-- One byte in a block of its own. -/
theorem bytes_one (w : World) (y : UInt8) : Bytes (w.alloc (.cells #[.int .u8 (y.toNat : Nat)] 5)) (.slice (some ⟨w.heap.size, 0, none⟩) 1 1) [y] := by
  refine .inr ⟨⟨w.heap.size, 0, none⟩, 1, rfl, Nat.le_refl _, by unfold maxLen; omega, fun j x hx => ?_⟩
  rw [Addr.add_mid, Nat.zero_add, cell_of_row _ _ _ _ _ _ (heap_alloc_new w _)]
  have hx' : [bv y][j]? = some x := hx
  show [bv y].toArray[j]? = some x
  simpa using hx'

/-- A row under way: its bytes, in a block that is new since w. -/
structure Own (w : World) (r : Value) (bs : List UInt8) (W : World) : Prop where
  own : W.ownsRow 0 5 1 r bs.length (bs.map bv)
  new : ∀ k, r.ownBlock = some k → w.heap.size ≤ k
  bb : Below w.heap.size w W
theorem Own.fresh {w W : World} {r : Value} {bs : List UInt8} (h : Own w r bs W) : FreshO w W r bs := ⟨⟨bytes_of_owns h.own, fun k hk => ⟨h.new k hk, (h.own.lt k hk).2⟩, h.bb⟩, h.own⟩
theorem Own.later {w W W' : World} {r : Value} {bs : List UInt8} (h : Own w r bs W) (hb : Below W.heap.size W W') : Own w r bs W' := ⟨own_keeps h.own fun k hk => hb.block k (h.own.lt k hk).2, h.new, h.bb.trans (hb.mono h.bb.size)⟩
theorem Own.alloc {w W : World} {r : Value} {bs : List UInt8} (h : Own w r bs W) (o : Obj) : Own w r bs (W.alloc o) := h.later ((Below.refl _ W).alloc (Nat.le_refl _) _)
/-- Behind an append. -/
theorem Own.grown {w W W' : World} {r r' : Value} {bs cs : List UInt8} (h : Own w r bs W) (r1 : W'.ownsRow 0 5 1 r' cs.length (cs.map bv)) (r2 : W.grownBy W' r.ownBlock) (r3 : r'.ownBlock = r.ownBlock ∨ ∃ k, r'.ownBlock = some k ∧ W.heap.size ≤ k) : Own w r' cs W' := by
  obtain ⟨h1, h2⟩ := grown_below h.bb h.new r2 r3
  exact ⟨r1, h2, h1⟩
theorem Own.start (w : World) : Own w (.slice none 0 0) [] w := ⟨own_none w, fun k hk => (by cases hk), Below.refl _ w⟩
theorem FreshO.own {w W W' : World} {r : Value} {bs : List UInt8} (h : FreshO W W' r bs) (hb : Below w.heap.size w W) : Own w r bs W' := ⟨h.2, fun k hk => by have := (h.1.2.1 k hk).1; have := hb.size; omega, hb.trans (h.1.2.2.mono hb.size)⟩

theorem Own.lift {w W W' : World} {v : Value} {bs : List UInt8} (h : Own W v bs W') (hb : Below w.heap.size w W) : Own w v bs W' := ⟨h.own, fun k hk => by have := h.new k hk; have := hb.size; omega, hb.trans (h.bb.mono hb.size)⟩

end Go.Proofs.Ytflfiobicapopaa

namespace Go.Proofs.Ytflfiobicapopaa

def crcPoly : Nat := 3988292384
def crcOnes : Nat := 4294967295
/-- A number is halved, with the polynomial if there was a rest. -/
def hv (n : Nat) : Nat := if n % 2 = 1 then n / 2 ^^^ crcPoly else n / 2
/-- So many times. -/
def hvs : Nat → Nat → Nat
  | 0, n => n
  | k + 1, n => hvs k (hv n)

theorem xor_mod2 (a b : Nat) : (a ^^^ b) % 2 = (a + b) % 2 := by
  have h : ((a ^^^ b) % 2 = 1) ↔ ¬ ((a % 2 = 1) ↔ (b % 2 = 1)) := by simp
  have h1 : (a ^^^ b) % 2 = 0 ∨ (a ^^^ b) % 2 = 1 := by omega
  rcases h1 with h1 | h1
  · have : (a % 2 = 1) ↔ (b % 2 = 1) := by
      by_cases hh : (a % 2 = 1) ↔ (b % 2 = 1)
      · exact hh
      · have := h.2 hh; omega
    omega
  · have := h.1 h1
    omega

theorem hv_xor (a b : Nat) : hv (a ^^^ b) = hv a ^^^ hv b := by
  unfold hv
  rw [xor_mod2, Nat.xor_div_two]
  by_cases ha : a % 2 = 1 <;> by_cases hb : b % 2 = 1
  · rw [if_neg (by omega), if_pos ha, if_pos hb]
    rw [Nat.xor_assoc (a / 2), Nat.xor_comm crcPoly, Nat.xor_assoc (b / 2), Nat.xor_self, Nat.xor_zero]
  · rw [if_pos (by omega), if_pos ha, if_neg hb, Nat.xor_assoc, Nat.xor_assoc, Nat.xor_comm (b / 2)]
  · rw [if_pos (by omega), if_neg ha, if_pos hb, Nat.xor_assoc]
  · rw [if_neg (by omega), if_neg ha, if_neg hb]

theorem hvs_xor : ∀ (k a b : Nat), hvs k (a ^^^ b) = hvs k a ^^^ hvs k b
  | 0, _, _ => rfl
  | k + 1, a, b => by show hvs k (hv (a ^^^ b)) = _; rw [hv_xor]; exact hvs_xor k _ _

theorem hv_zero : hv 0 = 0 := rfl
theorem hvs_zero : ∀ k, hvs k 0 = 0
  | 0 => rfl
  | k + 1 => by show hvs k (hv 0) = 0; rw [hv_zero]; exact hvs_zero k
theorem hvs_add : ∀ (k j n : Nat), hvs (k + j) n = hvs j (hvs k n)
  | 0, j, n => by rw [Nat.zero_add]; rfl
  | k + 1, j, n => by rw [show k + 1 + j = (k + j) + 1 by omega]; show hvs (k + j) (hv n) = hvs j (hvs k (hv n)); exact hvs_add k j _
theorem hvs_succ (k n : Nat) : hvs (k + 1) n = hv (hvs k n) := hvs_add k 1 n

theorem hv_lt {n : Nat} (h : n < 4294967296) : hv n < 4294967296 := by
  unfold hv
  split
  · exact Nat.xor_lt_two_pow (n := 32) (by omega) (by decide)
  · omega
theorem hvs_lt : ∀ {k n : Nat}, n < 4294967296 → hvs k n < 4294967296
  | 0, _, h => h
  | k + 1, _, h => hvs_lt (k := k) (hv_lt h)

theorem hv_eq_zero {n : Nat} (h : n < 4294967296) (h0 : hv n = 0) : n = 0 := by
  unfold hv at h0
  split at h0
  · have : n / 2 = crcPoly := by
      have h1 : n / 2 ^^^ crcPoly ^^^ crcPoly = crcPoly := by rw [h0, Nat.zero_xor]
      rwa [Nat.xor_assoc, Nat.xor_self, Nat.xor_zero] at h1
    have hp : crcPoly = 3988292384 := rfl
    omega
  · omega
theorem hvs_eq_zero : ∀ {k n : Nat}, n < 4294967296 → hvs k n = 0 → n = 0
  | 0, _, _, h => h
  | k + 1, _, h, h0 => hv_eq_zero h (hvs_eq_zero (k := k) (hv_lt h) h0)

theorem hvs_two_pow : ∀ (k y : Nat), hvs k (2 ^ k * y) = y
  | 0, y => by show 2 ^ 0 * y = y; omega
  | k + 1, y => by
    show hvs k (hv (2 ^ (k + 1) * y)) = y
    have e : hv (2 ^ (k + 1) * y) = 2 ^ k * y := by
      unfold hv
      rw [Nat.pow_succ, show 2 ^ k * 2 * y = 2 * (2 ^ k * y) by rw [Nat.mul_comm (2 ^ k) 2, Nat.mul_assoc]]
      rw [if_neg (by omega)]
      omega
    rw [e]; exact hvs_two_pow k y

theorem hvs_split : ∀ (k y z : Nat), z < 2 ^ k → hvs k (2 ^ k * y + z) = y ^^^ hvs k z
  | 0, y, z, h => by
    have : z = 0 := by simpa using h
    subst this
    show 2 ^ 0 * y + 0 = y ^^^ 0
    rw [Nat.xor_zero]; omega
  | k + 1, y, z, h => by
    show hvs k (hv (2 ^ (k + 1) * y + z)) = y ^^^ hvs k (hv z)
    have hp : 2 ^ (k + 1) * y = 2 * (2 ^ k * y) := by rw [Nat.pow_succ, Nat.mul_comm (2 ^ k) 2, Nat.mul_assoc]
    have hz : z / 2 < 2 ^ k := by rw [Nat.pow_succ] at h; omega
    have ih := hvs_split k y (z / 2) hz
    unfold hv
    rw [hp]
    by_cases h2 : z % 2 = 1
    · rw [if_pos (by omega), if_pos h2, show (2 * (2 ^ k * y) + z) / 2 = 2 ^ k * y + z / 2 by omega, hvs_xor, hvs_xor, ih, Nat.xor_assoc]
    · rw [if_neg (by omega), if_neg h2, show (2 * (2 ^ k * y) + z) / 2 = 2 ^ k * y + z / 2 by omega, ih]

/-- A byte goes through the register: by the table, and by definition. -/
theorem hvs8 (x : Nat) : hvs 8 x = hvs 8 (x % 256) ^^^ x / 256 := by
  have h := hvs_split 8 (x / 256) (x % 256) (by omega)
  rw [show 2 ^ 8 * (x / 256) + x % 256 = x by omega] at h
  rw [h, Nat.xor_comm]

theorem xor_mod256 (a b : Nat) : (a ^^^ b) % 256 = a % 256 ^^^ b % 256 := Nat.xor_mod_two_pow (n := 8)
theorem xor_div256 (a b : Nat) : (a ^^^ b) / 256 = a / 256 ^^^ b / 256 := Nat.xor_div_two_pow (n := 8)

theorem through (r b : Nat) (hb : b < 256) : hvs 8 (r ^^^ b) = hvs 8 ((r % 256) ^^^ b) ^^^ r / 256 := by
  rw [hvs8 (r ^^^ b), xor_mod256, xor_div256, Nat.mod_eq_of_lt hb, Nat.div_eq_of_lt hb, Nat.xor_zero]

theorem ones_sub {x : Nat} (h : x < 4294967296) : crcOnes - x = crcOnes ^^^ x := by
  have h1 := BitVec.toNat_not (x := BitVec.ofNat 32 x)
  have h2 : (~~~ (BitVec.ofNat 32 x)) = BitVec.allOnes 32 ^^^ BitVec.ofNat 32 x := by
    rw [BitVec.allOnes_xor]
  rw [h2, BitVec.toNat_xor, BitVec.toNat_allOnes, BitVec.toNat_ofNat, Nat.mod_eq_of_lt (by simpa using h)] at h1
  have e : crcOnes = 2 ^ 32 - 1 := by decide
  rw [e, h1]

theorem ones_lt : crcOnes < 4294967296 := by decide
theorem xor_lt32 {a b : Nat} (ha : a < 4294967296) (hb : b < 4294967296) : a ^^^ b < 4294967296 := Nat.xor_lt_two_pow (n := 32) ha hb

/-- The sum of bytes whose sum is s, and one byte more. -/
def nx (s b : Nat) : Nat := crcOnes ^^^ hvs 8 (crcOnes ^^^ s ^^^ b)
/-- The number whose digits are the bytes, the first one the lowest. -/
def le : List UInt8 → Nat
  | [] => 0
  | b :: r => b.toNat + 256 * le r
/-- The sum of bytes. -/
def sumB (bs : List UInt8) : Nat := bs.foldl (fun s b => nx s b.toNat) 0
/-- Two sums joined. -/
def jn (a b n : Nat) : Nat := hvs (8 * n) a ^^^ b

theorem nx_lt {s b : Nat} (hs : s < 4294967296) (hb : b < 256) : nx s b < 4294967296 := xor_lt32 ones_lt (hvs_lt (xor_lt32 (xor_lt32 ones_lt hs) (by omega)))

theorem add_xor {k a y : Nat} (h : a < 2 ^ k) : a + 2 ^ k * y = a ^^^ 2 ^ k * y := by
  have h1 := Nat.two_pow_add_eq_or_of_lt (b := a) (i := k) h y
  rw [Nat.add_comm, h1]
  apply Nat.eq_of_testBit_eq
  intro i
  rw [Nat.testBit_or, Nat.testBit_xor, Nat.testBit_two_pow_mul]
  by_cases hi : i < k
  · simp [Nat.not_le.2 hi]
  · have : a.testBit i = false := Nat.testBit_lt_two_pow (Nat.lt_of_lt_of_le h (Nat.pow_le_pow_right (by decide) (by omega)))
    simp [this]

theorem le_lt : ∀ (xs : List UInt8), le xs < 2 ^ (8 * xs.length)
  | [] => by decide
  | b :: r => by
    have := le_lt r
    have := b.toNat_lt
    show b.toNat + 256 * le r < 2 ^ (8 * (r.length + 1))
    rw [show 8 * (r.length + 1) = 8 * r.length + 8 by omega, Nat.pow_add]
    omega

theorem le_append : ∀ (xs ys : List UInt8), le (xs ++ ys) = le xs ^^^ 2 ^ (8 * xs.length) * le ys := fun xs ys => by
  rw [← add_xor (le_lt xs)]
  induction xs with
  | nil => simp [le]
  | cons b r ih =>
    show b.toNat + 256 * le (r ++ ys) = b.toNat + 256 * le r + 2 ^ (8 * (r.length + 1)) * le ys
    rw [ih, show 8 * (r.length + 1) = 8 * r.length + 8 by omega, Nat.pow_add, show (2 ^ (8 * r.length) * 2 ^ 8) * le ys = 256 * (2 ^ (8 * r.length) * le ys) by rw [Nat.mul_comm (2 ^ (8 * r.length)), Nat.mul_assoc]]
    omega

theorem sum_snoc (xs : List UInt8) (b : UInt8) : sumB (xs ++ [b]) = nx (sumB xs) b.toNat := by unfold sumB; rw [List.foldl_append]; rfl

theorem ones_ones (x : Nat) : crcOnes ^^^ (crcOnes ^^^ x) = x := by rw [← Nat.xor_assoc, Nat.xor_self, Nat.zero_xor]

/-- The sum of bytes by their number. -/
theorem sum_closed (xs : List UInt8) : sumB xs = crcOnes ^^^ hvs (8 * xs.length) (crcOnes ^^^ le xs) := by
  suffices h : ∀ (n : Nat) (xs : List UInt8), xs.length = n → sumB xs = crcOnes ^^^ hvs (8 * xs.length) (crcOnes ^^^ le xs) from h _ xs rfl
  intro n
  induction n with
  | zero =>
    intro xs h
    obtain rfl := List.eq_nil_of_length_eq_zero h
    decide
  | succ n ih =>
    intro xs h
    obtain ⟨ys, b, rfl⟩ : ∃ ys b, xs = ys ++ [b] := ⟨xs.dropLast, xs.getLast (by intro e; subst e; simp at h), (List.dropLast_concat_getLast _).symm⟩
    have hl : ys.length = n := by simpa using h
    rw [sum_snoc, ih ys hl, le_append]
    unfold nx
    rw [ones_ones]
    have e : le [b] = b.toNat := by show b.toNat + 256 * 0 = b.toNat; omega
    rw [e, List.length_append, List.length_singleton, show 8 * (ys.length + 1) = 8 * ys.length + 8 by omega, hvs_add, ← Nat.xor_assoc, hvs_xor (8 * ys.length) (crcOnes ^^^ le ys), hvs_two_pow]

theorem sum_lt (xs : List UInt8) : sumB xs < 4294967296 := by
  suffices h : ∀ (xs : List UInt8) (s : Nat), s < 4294967296 → xs.foldl (fun s b => nx s b.toNat) s < 4294967296 from h xs 0 (by decide)
  intro xs
  induction xs with
  | nil => intro s h; exact h
  | cons b r ih => intro s h; exact ih _ (nx_lt h b.toNat_lt)

/-- P2.2: the sums of two rows, joined. -/
theorem join_sum (xs ys : List UInt8) : jn (sumB xs) (sumB ys) ys.length = sumB (xs ++ ys) := by
  unfold jn
  rw [sum_closed (xs ++ ys), sum_closed ys, le_append, List.length_append, Nat.mul_add, hvs_add, ← Nat.xor_assoc crcOnes (le xs), hvs_xor (8 * xs.length) (crcOnes ^^^ le xs), hvs_two_pow]
  have hx : hvs (8 * xs.length) (crcOnes ^^^ le xs) = crcOnes ^^^ sumB xs := by rw [sum_closed xs, ones_ones]
  rw [hx, hvs_xor, hvs_xor, hvs_xor]
  generalize hvs (8 * ys.length) (sumB xs) = A
  generalize hvs (8 * ys.length) crcOnes = B
  generalize hvs (8 * ys.length) (le ys) = C
  rw [Nat.xor_comm B A, Nat.xor_assoc A, ← Nat.xor_assoc crcOnes A, Nat.xor_comm crcOnes A, Nat.xor_assoc A]

theorem join_zero (a b m n : Nat) : jn (jn a 0 m) b n = jn a b (m + n) := by
  unfold jn
  rw [Nat.xor_zero, Nat.mul_add, hvs_add]
theorem join_none (a : Nat) : jn a 0 0 = a := by unfold jn; rw [Nat.xor_zero]; rfl
theorem join_assoc (a b c m n : Nat) : jn a (jn b c n) (m + n) = jn (jn a b m) c n := by
  unfold jn
  rw [Nat.mul_add, hvs_add, hvs_xor, Nat.xor_assoc]
theorem jn_lt {a b n : Nat} (ha : a < 4294967296) (hb : b < 4294967296) : jn a b n < 4294967296 := xor_lt32 (hvs_lt ha) hb

/-- What two rows of one length differ in tells what their sums differ in. -/
theorem sum_xor (xs ys : List UInt8) (h : xs.length = ys.length) : sumB xs ^^^ sumB ys = hvs (8 * xs.length) (le xs ^^^ le ys) := by
  rw [sum_closed xs, sum_closed ys, ← h, hvs_xor, hvs_xor, hvs_xor]
  generalize hvs (8 * xs.length) crcOnes = A
  generalize hvs (8 * xs.length) (le xs) = B
  generalize hvs (8 * xs.length) (le ys) = C
  rw [← Nat.xor_assoc crcOnes A, ← Nat.xor_assoc crcOnes A]
  generalize crcOnes ^^^ A = D
  rw [Nat.xor_comm D B, Nat.xor_assoc B, ← Nat.xor_assoc D D, Nat.xor_self, Nat.zero_xor]

theorem xor_eq_zero {a b : Nat} (h : a ^^^ b = 0) : a = b := by
  have h1 : a ^^^ b ^^^ b = b := by rw [h, Nat.zero_xor]
  rwa [Nat.xor_assoc, Nat.xor_self, Nat.xor_zero] at h1

theorem sum_eq_iff (xs ys : List UInt8) (h : xs.length = ys.length) : sumB xs = sumB ys ↔ hvs (8 * xs.length) (le xs ^^^ le ys) = 0 := by
  rw [← sum_xor xs ys h]
  exact ⟨fun e => by rw [e, Nat.xor_self], xor_eq_zero⟩

theorem toNat_xor8 (a b : UInt8) : (a ^^^ b).toNat = a.toNat ^^^ b.toNat := UInt8.toNat_xor a b

theorem two_pow_xor (k a b : Nat) : 2 ^ k * (a ^^^ b) = 2 ^ k * a ^^^ 2 ^ k * b := by
  apply Nat.eq_of_testBit_eq
  intro i
  rw [Nat.testBit_xor, Nat.testBit_two_pow_mul, Nat.testBit_two_pow_mul, Nat.testBit_two_pow_mul, Nat.testBit_xor]
  by_cases h : k ≤ i <;> simp [h]

/-- A byte of a row turned about. -/
theorem le_set : ∀ (xs : List UInt8) (i : Nat) (v : UInt8) (hi : i < xs.length), le (xs.set i (xs[i] ^^^ v)) = le xs ^^^ 2 ^ (8 * i) * v.toNat
  | b :: r, 0, v, _ => by
    show (b ^^^ v).toNat + 256 * le r = (b.toNat + 256 * le r) ^^^ 2 ^ 0 * v.toNat
    have h1 := b.toNat_lt
    have h3 : (b ^^^ v).toNat < 2 ^ 8 := (b ^^^ v).toNat_lt
    rw [show (256 : Nat) = 2 ^ 8 by decide, add_xor h3, add_xor (k := 8) (a := b.toNat) (by omega), toNat_xor8, Nat.pow_zero, Nat.one_mul, Nat.xor_assoc, Nat.xor_assoc, Nat.xor_comm v.toNat]
  | b :: r, i + 1, v, hi => by
    have hi' : i < r.length := by simpa using hi
    have ih := le_set r i v hi'
    show b.toNat + 256 * le (r.set i (r[i] ^^^ v)) = (b.toNat + 256 * le r) ^^^ 2 ^ (8 * (i + 1)) * v.toNat
    have h1 := b.toNat_lt
    rw [ih, show (256 : Nat) = 2 ^ 8 by decide, add_xor (k := 8) (a := b.toNat) (by omega), add_xor (k := 8) (a := b.toNat) (by omega), show 8 * (i + 1) = 8 * i + 8 by omega, Nat.pow_add, show 2 ^ (8 * i) * 2 ^ 8 * v.toNat = 2 ^ 8 * (2 ^ (8 * i) * v.toNat) by rw [Nat.mul_comm (2 ^ (8 * i)), Nat.mul_assoc], Nat.xor_assoc, two_pow_xor]

/-- Less than 2^32 at place m: told by the sum. -/
theorem burst {n m E : Nat} (hm : m ≤ n) (hE : E < 4294967296) : hvs (8 * n) (2 ^ (8 * m) * E) = 0 ↔ E = 0 := by
  rw [show 8 * n = 8 * m + 8 * (n - m) by omega, hvs_add, hvs_two_pow]
  exact ⟨hvs_eq_zero hE, fun h => by rw [h, hvs_zero]⟩

/-- Is the number not met within so many halvings? -/
def noOne : Nat → Nat → Bool
  | 0, _ => true
  | k + 1, n => hv n != 1 && noOne k (hv n)
theorem noOne_spec : ∀ (k n d : Nat), noOne k n = true → 0 < d → d ≤ k → hvs d n ≠ 1
  | 0, _, d, _, h1, h2 => by omega
  | k + 1, n, d, h, h1, h2 => by
    rw [noOne, Bool.and_eq_true] at h
    cases d with
    | zero => omega
    | succ d =>
      show hvs d (hv n) ≠ 1
      cases d with
      | zero => have h1 := h.1; exact fun e => by rw [show hv n = 1 from e] at h1; simp at h1
      | succ d => exact noOne_spec k (hv n) (d + 1) h.2 (by omega) (by omega)
set_option maxRecDepth 100000 in
theorem noOne_2400 : noOne 2400 1 = true := by decide +kernel

theorem two_bits {n p q : Nat} (hp : p < 8 * n) (hq : q < 8 * n) (hn : n ≤ 300) : hvs (8 * n) (2 ^ p ^^^ 2 ^ q) = 0 ↔ p = q := by
  refine ⟨fun h => ?_, fun h => by rw [h, Nat.xor_self, hvs_zero]⟩
  suffices H : ∀ p q, p < q → q < 8 * n → hvs (8 * n) (2 ^ p ^^^ 2 ^ q) ≠ 0 by
    rcases Nat.lt_trichotomy p q with h1 | h1 | h1
    · exact absurd h (H p q h1 hq)
    · exact h1
    · rw [Nat.xor_comm] at h; exact absurd h (H q p h1 hp)
  intro p q hpq hq h
  have e : 2 ^ p ^^^ 2 ^ q = 2 ^ p * (1 ^^^ 2 ^ (q - p)) := by
    rw [two_pow_xor, Nat.mul_one, ← Nat.pow_add, show p + (q - p) = q by omega]
  rw [e, show 8 * n = p + ((q - p) + (8 * n - q)) by omega, hvs_add, hvs_two_pow, hvs_add, hvs_xor] at h
  have e2 : hvs (q - p) (2 ^ (q - p)) = 1 := by have := hvs_two_pow (q - p) 1; rwa [Nat.mul_one] at this
  rw [e2] at h
  have hlt : hvs (q - p) 1 ^^^ 1 < 4294967296 := xor_lt32 (hvs_lt (by decide)) (by decide)
  have := xor_eq_zero (hvs_eq_zero hlt h)
  exact noOne_spec 2400 1 (q - p) noOne_2400 (by omega) (by omega) this
end Go.Proofs.Ytflfiobicapopaa

namespace Go.Proofs.Ytflfiobicapopaa

/-- A head: its serial, its epoch, which segment lives. -/
structure HeadD where
  s : Nat
  e : Nat
  l : Nat
/-- What a head of the program may hold. -/
def HeadD.fits (h : HeadD) : Prop := h.s < 18446744073709551616 ∧ h.e < 18446744073709551616 ∧ h.l < 256
def HeadD.right (h : HeadD) : Bool := h.s != 0 && (h.l == 0 || h.l == 1)
theorem HeadD.right_iff {h : HeadD} : h.right = true ↔ h.s ≠ 0 ∧ h.l ≤ 1 := by
  unfold HeadD.right
  rw [Bool.and_eq_true, Bool.or_eq_true, bne_iff_ne, beq_iff_eq, beq_iff_eq]
  omega

/-- A number's eight bytes, the lowest first. -/
def eight (n : Nat) : List UInt8 := (List.range 8).map fun j => UInt8.ofNat (n / 256 ^ j % 256)
theorem eight_len (n : Nat) : (eight n).length = 8 := by simp [eight]
theorem le_eight {n : Nat} (h : n < 18446744073709551616) : le (eight n) = n := by
  have u : ∀ x : Nat, (UInt8.ofNat (x % 256)).toNat = x % 256 := fun x => by rw [UInt8.toNat_ofNat']; exact Nat.mod_eq_of_lt (by simpa using Nat.mod_lt x (by decide))
  show (UInt8.ofNat (n / 256 ^ 0 % 256)).toNat + 256 * ((UInt8.ofNat (n / 256 ^ 1 % 256)).toNat + 256 * ((UInt8.ofNat (n / 256 ^ 2 % 256)).toNat + 256 * ((UInt8.ofNat (n / 256 ^ 3 % 256)).toNat + 256 * ((UInt8.ofNat (n / 256 ^ 4 % 256)).toNat + 256 * ((UInt8.ofNat (n / 256 ^ 5 % 256)).toNat + 256 * ((UInt8.ofNat (n / 256 ^ 6 % 256)).toNat + 256 * ((UInt8.ofNat (n / 256 ^ 7 % 256)).toNat + 256 * 0))))))) = n
  simp only [u]
  omega
theorem le_inj8 : ∀ (a b : List UInt8), a.length = b.length → le a = le b → a = b
  | [], [], _, _ => rfl
  | x :: a, y :: b, hl, h => by
    have hx := x.toNat_lt
    have hy := y.toNat_lt
    have h' : x.toNat + 256 * le a = y.toNat + 256 * le b := h
    have e1 : x.toNat = y.toNat := by omega
    have e2 : le a = le b := by omega
    rw [UInt8.toNat_inj.1 e1, le_inj8 a b (by simpa using hl) e2]
theorem eight_le {b : List UInt8} (h : b.length = 8) : eight (le b) = b := by
  have h1 := le_lt b
  rw [h] at h1
  exact le_inj8 _ _ (by rw [eight_len, h]) (le_eight (by omega))
theorem le8_lt {b : List UInt8} (h : b.length = 8) : le b < 18446744073709551616 := by
  have h1 := le_lt b
  rw [h] at h1
  omega

/-- A head's bytes. -/
def HeadD.bytes (h : HeadD) : List UInt8 := eight h.s ++ eight h.e ++ [UInt8.ofNat h.l, 0, 0, 0, 0, 0, 0, 0] ++ eight h.s
theorem HeadD.bytes_len (h : HeadD) : h.bytes.length = 32 := by simp [HeadD.bytes, eight_len]
/-- What Bytes answers. -/
def hbErr (h : HeadD) : Int := if h.right then 0 else 50
def hbOf (h : HeadD) : List UInt8 := if h.right then h.bytes else []
/-- What bytes say, whether they are a head or not. -/
def headOf (b : List UInt8) : HeadD := ⟨le (b.take 8), le ((b.drop 8).take 8), (b.getD 16 0).toNat⟩
def isHead (b : List UInt8) : Bool := b.length == 32 && (headOf b).right && (le ((b.drop 24).take 8) == (headOf b).s) && ((b.drop 17).take 7 == [0, 0, 0, 0, 0, 0, 0])
/-- What Read answers: the head, or none. -/
def readH (b : List UInt8) : HeadD := if isHead b then headOf b else ⟨0, 0, 0⟩

theorem isHead_iff {b : List UInt8} : isHead b = true ↔ b.length = 32 ∧ (headOf b).right = true ∧ le ((b.drop 24).take 8) = (headOf b).s ∧ (b.drop 17).take 7 = [0, 0, 0, 0, 0, 0, 0] := by
  unfold isHead
  simp only [Bool.and_eq_true, beq_iff_eq, and_assoc]

theorem parts_of (h : HeadD) : h.bytes.take 8 = eight h.s ∧ (h.bytes.drop 8).take 8 = eight h.e ∧ h.bytes.getD 16 0 = UInt8.ofNat h.l ∧ (h.bytes.drop 17).take 7 = [0, 0, 0, 0, 0, 0, 0] ∧ (h.bytes.drop 24).take 8 = eight h.s := by
  refine ⟨rfl, rfl, rfl, rfl, rfl⟩
/-- A right head's bytes are that head, read. -/
theorem read_bytes {h : HeadD} (hf : h.fits) (hr : h.right = true) : isHead h.bytes = true ∧ headOf h.bytes = h := by
  obtain ⟨p1, p2, p3, p4, p5⟩ := parts_of h
  have hl : (UInt8.ofNat h.l).toNat = h.l := by rw [UInt8.toNat_ofNat']; exact Nat.mod_eq_of_lt (by simpa using hf.2.2)
  have e : headOf h.bytes = h := by
    unfold headOf
    rw [p1, p2, p3, le_eight hf.1, le_eight hf.2.1, hl]
  refine ⟨isHead_iff.2 ⟨h.bytes_len, by rw [e]; exact hr, by rw [p5, e, le_eight hf.1], p4⟩, e⟩
/-- Whatever bytes are a head are its bytes. -/
theorem bytes_read {b : List UInt8} (h : isHead b = true) : (headOf b).fits ∧ (headOf b).right = true ∧ (headOf b).bytes = b := by
  obtain ⟨hl, hr, hs, hz⟩ := isHead_iff.1 h
  have l1 : (b.take 8).length = 8 := by rw [List.length_take]; omega
  have l2 : ((b.drop 8).take 8).length = 8 := by rw [List.length_take, List.length_drop]; omega
  have l3 : ((b.drop 24).take 8).length = 8 := by rw [List.length_take, List.length_drop]; omega
  refine ⟨⟨le8_lt l1, le8_lt l2, (b.getD 16 0).toNat_lt⟩, hr, ?_⟩
  have e3 : eight (headOf b).s = (b.drop 24).take 8 := by rw [← hs]; exact eight_le l3
  have e1 : eight (headOf b).s = b.take 8 := eight_le l1
  have e2 : eight (headOf b).e = (b.drop 8).take 8 := eight_le l2
  have e4 : [UInt8.ofNat (headOf b).l, 0, 0, 0, 0, 0, 0, 0] = (b.drop 16).take 8 := by
    have h16 : b.drop 16 = b.getD 16 0 :: b.drop 17 := by
      rw [List.drop_eq_getElem_cons (show 16 < b.length by omega), List.getD_eq_getElem?_getD, List.getElem?_eq_getElem (show 16 < b.length by omega)]; rfl
    rw [h16, List.take_succ_cons, hz]
    show UInt8.ofNat (b.getD 16 0).toNat :: _ = _
    rw [UInt8.ofNat_toNat]
  have split : b = b.take 8 ++ (b.drop 8).take 8 ++ (b.drop 16).take 8 ++ (b.drop 24).take 8 := by
    have s1 : b = b.take 8 ++ b.drop 8 := (List.take_append_drop 8 b).symm
    have s2 : b.drop 8 = (b.drop 8).take 8 ++ b.drop 16 := by have := List.take_append_drop 8 (b.drop 8); rw [List.drop_drop] at this; exact this.symm
    have s3 : b.drop 16 = (b.drop 16).take 8 ++ b.drop 24 := by have := List.take_append_drop 8 (b.drop 16); rw [List.drop_drop] at this; exact this.symm
    have s4 : b.drop 24 = (b.drop 24).take 8 := (List.take_of_length_le (by rw [List.length_drop]; omega)).symm
    calc b = b.take 8 ++ b.drop 8 := s1
      _ = b.take 8 ++ ((b.drop 8).take 8 ++ b.drop 16) := by rw [← s2]
      _ = b.take 8 ++ ((b.drop 8).take 8 ++ ((b.drop 16).take 8 ++ b.drop 24)) := by rw [← s3]
      _ = _ := by rw [← s4]; simp only [List.append_assoc]
  unfold HeadD.bytes
  rw [e2, e4]
  conv => rhs; rw [split]
  rw [e1, ← e3, e1]
theorem bytes_inj {g h : HeadD} (hg : g.fits) (hh : h.fits) (rg : g.right = true) (rh : h.right = true) (e : g.bytes = h.bytes) : g = h := by
  have h1 := (read_bytes hg rg).2
  have h2 := (read_bytes hh rh).2
  rw [e] at h1
  exact h1.symm.trans h2


/-- P5.4: any first bytes of the new one, with the rest of what was. -/
theorem torn {N O b : List UInt8} {k : Nat} (hk : k ≤ 32) (hN : N.length = 32) (hO : O.length = 32) (hn : N.drop 24 = N.take 8) (ho : O.drop 24 = O.take 8) (hne : N.take 8 ≠ O.take 8) (hb : b = N.take k ++ O.drop k) (h : isHead b = true) : b = N ∨ b = O := by
  obtain ⟨hl, _, hs, _⟩ := isHead_iff.1 h
  have h24 : b.drop 24 = b.take 8 := by
    have e1 : (b.drop 24).take 8 = b.take 8 := le_inj8 _ _ (by rw [List.length_take, List.length_take, List.length_drop]; omega) hs
    rwa [List.take_of_length_le (by rw [List.length_drop]; omega)] at e1
  have hNk : (N.take k).length = k := by rw [List.length_take]; omega
  by_cases hk24 : k ≤ 24
  · have d24 : b.drop 24 = O.drop 24 := by
      rw [hb, List.drop_append, hNk, List.drop_of_length_le (by omega), List.nil_append, List.drop_drop, show k + (24 - k) = 24 by omega]
    rw [d24, ho] at h24
    by_cases hk8 : 8 ≤ k
    · have t8 : b.take 8 = N.take 8 := by rw [hb, List.take_append_of_le_length (by omega), List.take_take, Nat.min_eq_left hk8]
      rw [t8] at h24
      exact absurd h24.symm hne
    · have t8 : b.take 8 = N.take k ++ (O.drop k).take (8 - k) := by rw [hb, List.take_append, hNk, List.take_of_length_le (by omega)]
      have o8 : O.take 8 = O.take k ++ (O.drop k).take (8 - k) := by
        have := List.take_add (l := O) (i := k) (j := 8 - k)
        rwa [show k + (8 - k) = 8 by omega] at this
      rw [t8, o8] at h24
      have e := (List.append_inj h24 (by rw [List.length_take, List.length_take]; omega)).1
      rw [← e, List.take_append_drop] at hb
      exact .inr hb
  · have t8 : b.take 8 = N.take 8 := by rw [hb, List.take_append_of_le_length (by omega), List.take_take, Nat.min_eq_left (by omega)]
    have d24 : b.drop 24 = (N.take k).drop 24 ++ O.drop k := by rw [hb, List.drop_append_of_le_length (by omega)]
    have n24 : N.drop 24 = (N.take k).drop 24 ++ N.drop k := by
      have e := List.take_append_drop k N
      have e2 : (N.take k ++ N.drop k).drop 24 = (N.take k).drop 24 ++ N.drop k := List.drop_append_of_le_length (by omega)
      rw [e] at e2
      exact e2
    rw [t8, ← hn, n24, d24] at h24
    have e := List.append_cancel_left h24
    rw [e, List.take_append_drop] at hb
    exact .inl hb
theorem bytes_ends (h : HeadD) : h.bytes.drop 24 = h.bytes.take 8 := rfl
theorem bytes_front (h : HeadD) : h.bytes.take 8 = eight h.s := rfl
theorem eight_inj {m n : Nat} (hm : m < 18446744073709551616) (hn : n < 18446744073709551616) (h : eight m = eight n) : m = n := by rw [← le_eight hm, ← le_eight hn, h]
/-- Of heads. -/
theorem torn_heads {old new : HeadD} (ho : old.fits) (hn : new.fits) (hne : old.s ≠ new.s) {k : Nat} (hk : k ≤ 32) (h : isHead (new.bytes.take k ++ old.bytes.drop k) = true) : new.bytes.take k ++ old.bytes.drop k = new.bytes ∨ new.bytes.take k ++ old.bytes.drop k = old.bytes :=
  torn hk new.bytes_len old.bytes_len (bytes_ends _) (bytes_ends _) (fun e => hne (eight_inj ho.1 hn.1 (by rw [← bytes_front, ← bytes_front]; exact e.symm))) rfl h
/-- Over noughts. -/
theorem torn_noughts {new : HeadD} (hn : new.fits) (h0 : new.s ≠ 0) {k : Nat} (hk : k ≤ 32) (h : isHead (new.bytes.take k ++ List.replicate (32 - k) 0) = true) : new.bytes.take k ++ List.replicate (32 - k) 0 = new.bytes := by
  have e : List.replicate (32 - k) (0 : UInt8) = (List.replicate 32 (0 : UInt8)).drop k := by rw [List.drop_replicate]
  rw [e] at h ⊢
  rcases torn (O := List.replicate 32 (0 : UInt8)) hk new.bytes_len (by simp) (bytes_ends _) rfl (fun e => h0 (eight_inj hn.1 (by decide) (by rw [← bytes_front, e]; rfl))) rfl h with h1 | h1
  · exact h1
  · rw [h1] at h
    exact absurd h (by decide +kernel)
/-- All of it, none of it. -/
theorem torn_all {old new : List UInt8} (hn : new.length = 32) (ho : old.length = 32) : new.take 32 ++ old.drop 32 = new ∧ new.take 0 ++ old.drop 0 = old := by
  refine ⟨?_, by simp⟩
  rw [List.take_of_length_le (by omega), List.drop_of_length_le (by omega), List.append_nil]

/-- Which of two slots counts: P5.2. -/
def pickH (zero one : List UInt8) : Option HeadD :=
  let x := isHead zero && (headOf zero).s % 2 == 0
  let y := isHead one && (headOf one).s % 2 == 1
  if (x && y && decide ((headOf one).s > (headOf zero).s)) || (y && !x) then some (headOf one) else if x then some (headOf zero) else none
end Go.Proofs.Ytflfiobicapopaa

namespace Go.Proofs.Ytflfiobicapopaa
open Go.RowKit

/-- A head as a value. -/
def HeadD.val (h : HeadD) : Value := .agg #[.int .u64 ((h.s : Nat) : Int), .int .u64 ((h.e : Nat) : Int), .int .u8 ((h.l : Nat) : Int)]

theorem eight_take (n j : Nat) (hj : j < 8) : (eight n).take (j + 1) = (eight n).take j ++ [UInt8.ofNat (n / 256 ^ j % 256)] := by
  have hl : j < (eight n).length := by rw [eight_len]; exact hj
  rw [List.take_succ_eq_append_getElem hl]
  congr 2
  simp [eight]

theorem le_drop (bs : List UInt8) (j : Nat) (h : j < bs.length) : le (bs.drop j) = (bs.getD j 0).toNat + 256 * le (bs.drop (j + 1)) := by
  rw [List.drop_eq_getElem_cons h, List.getD_eq_getElem?_getD, List.getElem?_eq_getElem h]
  rfl

/-- A byte of a slice, where its place is. -/
theorem Bytes.spot {w : World} {a : Option Addr} {n c : Nat} {bs : List UInt8} (h : Bytes w (.slice a n c) bs) (hn : 0 < n) : ∃ b o, a = some ⟨b, o, none⟩ ∧ ∀ i, i < n → w.cell? ⟨b, o + i, none⟩ = some (.int .u8 ((bs.getD i 0).toNat : Nat)) := by
  obtain ⟨hl, _⟩ := bytes_len h
  obtain ⟨ad, rfl, h0⟩ := h.at (i := 0) hn hl
  obtain ⟨b, o, spot⟩ := ad
  have hspot : spot = none := by simpa [Addr.add] using World.cell?_spot h0
  subst hspot
  refine ⟨b, o, rfl, fun i hi => ?_⟩
  obtain ⟨_, e, h1⟩ := h.at hi hl
  cases e
  rwa [Addr.add_mid] at h1


end Go.Proofs.Ytflfiobicapopaa

namespace Go.Proofs.Ytflfiobicapopaa
open Go.RowKit

/-- append of bytes as one step of a region that draws its order. -/
theorem step_append_bytes {P : Program} {ops : Array Oper} {op : Oper} {a : Act} {w : World} {K : Act → World → Prop} {Q : Exit → Act → World → Prop} {E : Prop}
    (hg : op.guard = none) (s x : Operand) (t : TypeId) (hop : op.op = Op.call { callee := Callee.builtin Builtin.append, args := #[s, x], argTypes := #[t, t] })
    (e : TypeId) (i : TypeInfo) (z : Value) (ht : P.underlying t = some (.slice e)) (hi : P.info? e = some i) (hz : i.zero = some z) (hs : i.size = 1) (hb : i.bytes = 1) (hzs : z.cells.size = 1)
    (v : Value) (xs : List UInt8) (hsv : a.eval s = v) (hown : w.ownsRow 0 e 1 v xs.length (xs.map bv)) (u : Value) (bs : List UInt8) (hxu : a.eval x = u) (hu : Bytes w u bs) (hl : xs.length + bs.length ≤ 140737488355328)
    (hK : ∀ v' w', w'.ownsRow 0 e 1 v' (xs ++ bs).length ((xs ++ bs).map bv) → w.grownBy w' v.ownBlock → (v'.ownBlock = v.ownBlock ∨ ∃ k, v'.ownBlock = some k ∧ w.heap.size ≤ k) → K (a.put op.dst v') w') :
    if Region.wanted op (yielded ops a.tmps) = true then Oper.wp P op a w K Q else E := by
  have hw : Region.wanted op (yielded ops a.tmps) = true := by simp [Region.wanted, hg]
  rw [if_pos hw]
  obtain ⟨v', w', hrun, r1, r2, r3⟩ := run_append_bytes (P := P) w t op.type e i z ht hi hz hs hb hzs v xs hown u bs hu hl
  unfold Oper.wp
  simp [execOp, hop, resolve, invoke, builtin, hsv, hxu, hrun, Result.andThen]
  exact hK v' w' r1 r2 r3

/-- copy into the middle of a block, at the walk's list of operations. -/
theorem wpList_copy_mid {P : Program} {w : World} {ops : Array Oper} {rest : List Oper} {op : Oper} {a : Act} {Q : Exit → Act → World → Prop} (hgd : op.guard = none) (d s : Operand) (dT sT : TypeId)
    (ho : op.op = .call { callee := .builtin .copy, args := #[d, s], argTypes := #[dT, sT] }) (elem : TypeId) (hu : P.underlying dT = some (.slice elem)) (hsz : (P.info? elem).map (·.size) = some 1)
    (b o dLen dCap : Nat) (ad : Addr) (sLen sCap : Nat) (hd : a.eval d = .slice (some ⟨b, o, none⟩) dLen dCap) (hs : a.eval s = .slice (some ad) sLen sCap)
    (cs : List Value) (hn : cs.length = Nat.min sLen dLen) (hsrc : ∀ j u, cs[j]? = some u → w.cell? (ad.add j) = some u) (ht : w.there b o cs.length) (h1 : ∀ u ∈ cs, u.oneCell' = true)
    (h : wpList P ops Q rest (a.put op.dst (goInt cs.length)) (w.setCells b o cs)) : wpList P ops Q (op :: rest) a w := by
  refine wpList_plain hgd fun K hK => ?_
  have hrun := run_copy_cells (P := P) w dT sT op.type elem b o dLen dCap ad sLen sCap cs hu hsz hn hsrc (fun j hj => (ht j hj).1) (fun j hj => (ht j hj).2) h1
  unfold Oper.wp
  simp [execOp, ho, resolve, invoke, builtin, hd, hs, hrun, Result.andThen]
  exact hK _ _ h

theorem infoByteSize : (Try.prog.info? 5).map (·.size) = some 1 := by kernel_rfl

end Go.Proofs.Ytflfiobicapopaa

namespace Go.Proofs.Ytflfiobicapopaa
open Go.RowKit

theorem hbOf_ok {h : HeadD} (hr : h.right = true) : hbOf h = h.bytes := if_pos hr
theorem hbErr_ok {h : HeadD} (hr : h.right = true) : hbErr h = 0 := if_pos hr
theorem hbOf_no {h : HeadD} (hr : h.right = false) : hbOf h = [] := if_neg (by rw [hr]; decide)
theorem hbErr_no {h : HeadD} (hr : h.right = false) : hbErr h = 50 := if_neg (by rw [hr]; decide)

/-- Bytes in a block of their own. -/
theorem bytes_lit (w : World) (bs : List UInt8) (c : Array Value) (hc : c = (bs.map bv).toArray) (hl : bs.length ≤ maxLen) : Bytes (w.alloc (.cells c 5)) (.slice (some ⟨w.heap.size, 0, none⟩) bs.length bs.length) bs := by
  subst hc
  refine .inr ⟨⟨w.heap.size, 0, none⟩, bs.length, rfl, Nat.le_refl _, hl, fun j x hx => ?_⟩
  rw [Addr.add_mid, Nat.zero_add, cell_of_row _ _ _ _ _ _ (heap_alloc_new w _)]
  simpa using hx
theorem lit8 {l : Nat} (h : l < 256) : (#[.int .u8 ((l : Nat) : Int), .int .u8 0, .int .u8 0, .int .u8 0, .int .u8 0, .int .u8 0, .int .u8 0, .int .u8 0] : Array Value) = (([UInt8.ofNat l, 0, 0, 0, 0, 0, 0, 0] : List UInt8).map bv).toArray := by
  have e : (UInt8.ofNat l).toNat = l := by rw [UInt8.toNat_ofNat']; exact Nat.mod_eq_of_lt (by simpa using h)
  have e2 : bv (UInt8.ofNat l) = .int .u8 ((l : Nat) : Int) := by
    show Value.int .u8 (((UInt8.ofNat l).toNat : Nat) : Int) = _
    rw [e]
  show _ = (bv (UInt8.ofNat l) :: _).toArray
  rw [e2]
  rfl


end Go.Proofs.Ytflfiobicapopaa
