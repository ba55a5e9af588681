/- What a disk of package disk is in memory, and how it stands behind stores, draws and new blocks. Our own definitions; no statement of the seat is proved here. -/
import Derived.Test.YtifnjdplbdpelaaProg
import Derived.WalkKit
import Derived.WalkSpells
import Derived.WalkLawsBesides
import Derived.LaidEqlPtr
import Derived.Deep.MidRow
namespace Go.Proofs.Ytifnjdplbdpelaa
open Go.RowKit

/-- A byte as a cell. -/
def bv (b : UInt8) : Value := .int .u8 b.toNat

theorem bv_one (bs : List UInt8) : ∀ u ∈ bs.map bv, u.oneCell' = true := by
  intro u hu
  obtain ⟨_, _, rfl⟩ := List.mem_map.1 hu
  rfl

/-- The slice value u reads as the bytes bs. -/
def Bytes (w : World) (u : Value) (bs : List UInt8) : Prop :=
  (u = .slice none 0 0 ∧ bs = []) ∨ ∃ a c, u = .slice (some a) bs.length c ∧ bs.length ≤ c ∧ c ≤ maxLen ∧ ∀ j x, (bs.map bv)[j]? = some x → w.cell? (a.add j) = some x

theorem add_block (a : Addr) (j : Nat) : (a.add j).block = a.block := by unfold Addr.add; split <;> rfl

/-- Blocks outside D that were there are as they were; what is owned behind is of D, or new. -/
structure Step (D D' : Nat → Prop) (w w' : World) : Prop where
  os : w'.os = w.os
  tape : w'.tape = w.tape
  output : w'.output = w.output
  size : w.heap.size ≤ w'.heap.size
  block : ∀ k, k < w.heap.size → ¬ D k → w'.heap[k]? = w.heap[k]?
  own : ∀ k, D' k → D k ∨ w.heap.size ≤ k

theorem Step.refl (D : Nat → Prop) (w : World) : Step D D w w := ⟨rfl, rfl, rfl, Nat.le_refl _, fun _ _ _ => rfl, fun _ h => .inl h⟩

theorem Step.trans {D E F : Nat → Prop} {a b c : World} (h : Step D E a b) (k : Step E F b c) : Step D F a c := by
  refine ⟨k.os.trans h.os, k.tape.trans h.tape, k.output.trans h.output, Nat.le_trans h.size k.size, fun i hi hn => ?_, fun i hi => ?_⟩
  · rw [k.block i (Nat.lt_of_lt_of_le hi h.size) (fun he => ?_), h.block i hi hn]
    rcases h.own i he with h1 | h1
    · exact hn h1
    · omega
  · rcases k.own i hi with h1 | h1
    · exact h.own i h1
    · exact .inr (Nat.le_trans h.size h1)

theorem Step.drew {D E : Nat → Prop} {a b : World} (h : Step D E a b) : Step D E a b.drew := ⟨h.os, h.tape, h.output, h.size, h.block, h.own⟩

theorem Step.drewL {D E : Nat → Prop} {a b : World} (h : Step D E a.drew b) : Step D E a b := ⟨h.os, h.tape, h.output, h.size, h.block, h.own⟩

theorem Step.alloc {D E : Nat → Prop} {a b : World} (h : Step D E a b) (o : Obj) : Step D E a (b.alloc o) :=
  h.trans ⟨rfl, rfl, rfl, by simp, fun k hk _ => Below.heap_alloc _ _ _ hk, fun _ h => .inl h⟩

theorem Step.setCell {D E : Nat → Prop} {a b : World} (h : Step D E a b) {p : Addr} (hp : E p.block) (u : Value) : Step D E a (b.setCell p u) :=
  h.trans ⟨rfl, rfl, rfl, by simp [World.setCell], fun k _ hn => Below.heap_setCell _ _ _ _ (fun e => hn (e ▸ hp)), fun _ h => .inl h⟩

/-- A store into a block that is new since. -/
theorem Step.setNew {D E : Nat → Prop} {a b : World} (h : Step D E a b) {p : Addr} (hp : a.heap.size ≤ p.block) (u : Value) : Step D E a (b.setCell p u) := by
  refine ⟨h.os, h.tape, h.output, by simpa [World.setCell] using h.size, fun k hk hn => ?_, h.own⟩
  rw [Below.heap_setCell _ _ _ _ (by omega)]
  exact h.block k hk hn

/-- What is owned may be forgotten in part, and the new blocks may be added. -/
theorem Step.owns {D E E' : Nat → Prop} {a b : World} (h : Step D E a b) (hE : ∀ k, E' k → D k ∨ a.heap.size ≤ k) : Step D E' a b := ⟨h.os, h.tape, h.output, h.size, h.block, hE⟩

/-- More may turn. -/
theorem Step.wider {D D' E : Nat → Prop} {a b : World} (h : Step D E a b) (hD : ∀ k, D k → D' k) : Step D' E a b :=
  ⟨h.os, h.tape, h.output, h.size, fun k hk hn => h.block k hk (fun x => hn (hD k x)), fun k hk => (h.own k hk).imp (hD k) id⟩

theorem Step.below {D E : Nat → Prop} {a b : World} (h : Step D E a b) {B : Nat} (hB : B ≤ a.heap.size) (hD : ∀ k, D k → B ≤ k) : Below B a b :=
  ⟨h.os, h.tape, h.output, h.size, fun k hk => h.block k (by omega) (fun hd => by have := hD k hd; omega)⟩

theorem Step.cell {D E : Nat → Prop} {a b : World} (h : Step D E a b) {p : Addr} {v : Value} (hc : a.cell? p = some v) (hn : ¬ D p.block) : b.cell? p = some v := by
  rw [World.cell?_of_block (h.block p.block (World.block_lt_of_cell? a p hc) hn)]; exact hc

theorem Step.frozen {D E : Nat → Prop} {a b : World} (h : Step D E a b) {p : Addr} (hp : p.block < a.heap.size) (hn : ¬ D p.block) : b.frozen? p = a.frozen? p :=
  World.frozen?_of_block (h.block p.block hp hn)

theorem Step.range {D E : Nat → Prop} {a b : World} (h : Step D E a b) {q o : Nat} {cs : List Value} (hc : a.rangeAt q o cs) (hn : ¬ D q) : b.rangeAt q o cs :=
  fun j v hv => h.cell (hc j v hv) hn

theorem Step.bytes {D E : Nat → Prop} {a b : World} (h : Step D E a b) {u : Value} {bs : List UInt8} (hb : Bytes a u bs) (hn : bs ≠ [] → ∀ k, u.ownBlock = some k → ¬ D k) : Bytes b u bs := by
  rcases hb with hb | ⟨q, c, rfl, h1, h2, hr⟩
  · exact .inl hb
  · exact .inr ⟨q, c, rfl, h1, h2, fun j x hx => h.cell (hr j x hx) (by rw [add_block]; exact hn (fun e => by rw [e] at hx; cases hx) _ rfl)⟩

/-- A block that is written out in the grown world. -/
theorem Bytes.lt {w : World} {u : Value} {bs : List UInt8} (h : Bytes w u bs) (hne : bs ≠ []) : ∀ k, u.ownBlock = some k → k < w.heap.size := by
  intro k hk
  rcases h with ⟨rfl, _⟩ | ⟨q, c, rfl, _, _, hr⟩
  · cases hk
  · simp [Value.ownBlock] at hk
    subst hk
    cases bs with
    | nil => exact absurd rfl hne
    | cons x r => have := World.block_lt_of_cell? w _ (hr 0 (bv x) rfl); rwa [add_block] at this

/-- Behind whatever leaves the block alone. -/
theorem Bytes.kept {w w' : World} {u : Value} {bs : List UInt8} (h : Bytes w u bs) (hk : ∀ k, u.ownBlock = some k → k < w.heap.size → w'.heap[k]? = w.heap[k]?) : Bytes w' u bs := by
  rcases h with h | ⟨q, c, rfl, h1, h2, hr⟩
  · exact .inl h
  · refine .inr ⟨q, c, rfl, h1, h2, fun j v hv => ?_⟩
    have h3 := hr j v hv
    have h4 := World.block_lt_of_cell? w _ h3
    rw [add_block] at h4
    rw [World.cell?_of_block (w := w) (w' := w') (a := q.add j) (by rw [add_block]; exact hk _ rfl h4)]; exact h3

theorem Bytes.alloc {w : World} {u : Value} {bs : List UInt8} (h : Bytes w u bs) (o : Obj) : Bytes (w.alloc o) u bs := h.kept fun _ _ hk => Below.heap_alloc _ _ _ hk
theorem Bytes.drew {w : World} {u : Value} {bs : List UInt8} (h : Bytes w u bs) : Bytes w.drew u bs := h.kept fun _ _ _ => rfl

/-- An owned row of bytes, read. -/
theorem bytes_of_owns {w : World} {e : TypeId} {v : Value} {bs : List UInt8} (h : w.ownsRow 0 e 1 v bs.length (bs.map bv)) : Bytes w v bs := by
  have h0 := h
  rcases h.2 with ⟨rfl, hn⟩ | ⟨g, cap, cur, rfl, _, hg, hn, hm, _, _⟩
  · exact .inl ⟨rfl, List.eq_nil_of_length_eq_zero hn⟩
  · exact .inr ⟨⟨g, 0, none⟩, cap, rfl, hn, hm, fun j u hu => h0.cells (g := g) rfl j u hu⟩

/-- 'append' of bytes onto an owned row of bytes: the row goes on in its block, or in a new one. -/
theorem run_append_bytes {P : Program} (w : World) (t ty e : TypeId) (i : TypeInfo) (z : Value) (ht : P.underlying t = some (.slice e)) (hi : P.info? e = some i) (hz : i.zero = some z) (hs : i.size = 1) (hb : i.bytes = 1) (hzs : z.cells.size = 1)
    (v : Value) (xs : List UInt8) (hown : w.ownsRow 0 e 1 v xs.length (xs.map bv)) (u : Value) (bs : List UInt8) (hu : Bytes w u bs) (hl : xs.length + bs.length ≤ 140737488355328) :
    ∃ v' w', (Builtin.append_ #[t, t] ty #[v, u]).run P w = .ok v' w' ∧ w'.ownsRow 0 e 1 v' (xs ++ bs).length ((xs ++ bs).map bv) ∧ w.grownBy w' v.ownBlock ∧
      (v'.ownBlock = v.ownBlock ∨ ∃ k, v'.ownBlock = some k ∧ w.heap.size ≤ k) := by
  have hmx : xs.length + bs.length ≤ maxLen := by unfold maxLen; omega
  rcases hu with ⟨rfl, rfl⟩ | ⟨ad, c, rfl, hlc, _, hr⟩
  · exact ⟨v, w, run_append_owned_none (P := P) w 0 t ty e i 1 ht hi v xs.length (xs.map bv) hown, by simpa using hown, World.grownBy.refl _ _, .inl rfl⟩
  · have hc := hr
    have hln : (bs.map bv).length = bs.length * 1 := by simp
    rcases hown.2 with ⟨rfl, hn⟩ | ⟨g, cap, cur, rfl, hb0, hg, hnc, hcm, hcs, htk⟩
    · have hx : xs = [] := List.eq_nil_of_length_eq_zero hn
      subst hx
      obtain ⟨v', w', hrun, r1, r2, _⟩ := run_append_own (P := P) w w.heap.size t ty e i z 1 1 ht hi hz hs hb hzs (by decide) (.slice none 0 0) 0 [] (World.ownsRow_nil w _ e 1) ad bs.length c (bs.map bv) hln hc (bv_one bs) (by simpa using hmx) (by simpa using hl) (Nat.le_refl _)
      have r1' := r1
      refine ⟨v', w', hrun, ⟨by simp, ?_⟩, r2, ?_⟩
      · rcases r1.2 with ⟨h1, h2⟩ | ⟨g, cap, cur, h1, h2, h3, h4, h5, h6, h7⟩
        · exact .inl ⟨h1, by simpa using h2⟩
        · exact .inr ⟨g, cap, cur, by simpa using h1, Nat.zero_le _, h3, by simpa using h4, h5, h6, by simpa using h7⟩
      · rcases r1.2 with ⟨h1, h2⟩ | ⟨g, cap, cur, h1, h2, _⟩
        · exact .inl (by rw [h1])
        · exact .inr ⟨g, by rw [h1]; rfl, h2⟩
    · by_cases hroom : xs.length + bs.length ≤ cap
      · obtain ⟨w', hrun, r1, r2⟩ := run_append_fits (P := P) w 0 t ty e i 1 ht hi hs g xs.length cap (xs.map bv) hown ad bs.length c (bs.map bv) hln hc (bv_one bs) hroom
        exact ⟨_, w', hrun, by simpa using r1, r2, .inl rfl⟩
      · have hold : ∀ j x, (xs.map bv)[j]? = some x → w.cell? ((⟨g, 0, none⟩ : Addr).add j) = some x := hown.cells (g := g) rfl
        obtain ⟨v', w', hrun, r1, r2⟩ := run_append_arg_grows (P := P) w t ty e i z 1 1 ht hi hz hs hb hzs (by decide) ⟨g, 0, none⟩ xs.length cap (xs.map bv) (by simp) hold ad bs.length c (bs.map bv) hln hc (by omega) hmx (by simpa using hl)
        have r3 : w.grownBy w' (some g) := ⟨r2.os, r2.tape, r2.output, r2.size, fun k hk _ => r2.block k hk (by simp)⟩
        refine ⟨v', w', hrun, ⟨by simp, ?_⟩, r3, ?_⟩
        · rcases r1.2 with ⟨h1, h2⟩ | ⟨g', cap', cur', h1, h2, h3, h4, h5, h6, h7⟩
          · exact .inl ⟨h1, by simpa using h2⟩
          · exact .inr ⟨g', cap', cur', by simpa using h1, Nat.zero_le _, h3, by simpa using h4, h5, h6, by simpa using h7⟩
        · rcases r1.2 with ⟨h1, h2⟩ | ⟨g', cap', cur', h1, h2, _⟩
          · have : 0 < xs.length + bs.length := by omega
            omega
          · exact .inr ⟨g', by rw [h1]; rfl, h2⟩

/-- The same at the walk's list of operations. -/
theorem wpList_append_bytes {P : Program} (w : World) {ops : Array Oper} {rest : List Oper} {op : Oper} {a : Act} {Q : Exit → Act → World → Prop}
    (hg : op.guard = none) (s x : Operand) (t : TypeId) (hop : op.op = Op.call { callee := Callee.builtin Builtin.append, args := #[s, x], argTypes := #[t, t] })
    (e : TypeId) (i : TypeInfo) (z : Value) (ht : P.underlying t = some (.slice e)) (hi : P.info? e = some i) (hz : i.zero = some z) (hs : i.size = 1) (hb : i.bytes = 1) (hzs : z.cells.size = 1)
    (v : Value) (xs : List UInt8) (hsv : a.eval s = v) (hown : w.ownsRow 0 e 1 v xs.length (xs.map bv)) (u : Value) (bs : List UInt8) (hxu : a.eval x = u) (hu : Bytes w u bs) (hl : xs.length + bs.length ≤ 140737488355328)
    (hK : ∀ v' w', w'.ownsRow 0 e 1 v' (xs ++ bs).length ((xs ++ bs).map bv) → w.grownBy w' v.ownBlock → (v'.ownBlock = v.ownBlock ∨ ∃ k, v'.ownBlock = some k ∧ w.heap.size ≤ k) → wpList P ops Q rest (a.put op.dst v') w') :
    wpList P ops Q (op :: rest) a w := by
  refine wpList_plain hg fun K hK' => ?_
  obtain ⟨v', w', hrun, r1, r2, r3⟩ := run_append_bytes (P := P) w t op.type e i z ht hi hz hs hb hzs v xs hown u bs hu hl
  unfold Oper.wp
  simp [execOp, hop, resolve, invoke, builtin, hsv, hxu, hrun, Result.andThen]
  exact hK' _ _ (hK v' w' r1 r2 r3)

/-- Bytes as a string. -/
theorem run_convert_bytes {P : Program} (w : World) (src dst e : TypeId) (hs : P.underlying src = some (.slice e)) (he : P.underlying e = some (.int .u8)) (hd : P.underlying dst = some .string)
    (u : Value) (bs : List UInt8) (hu : Bytes w u bs) : (convert src dst u).run P w = .ok (.string ⟨bs.toArray⟩) w := by
  rcases hu with ⟨rfl, rfl⟩ | ⟨ad, c, rfl, _, _, hr⟩
  · rw [run_convert_bytes_string w src dst e none 0 0 hs he hd]
    simp [Conv.bytesToString, Sem.run_pure]
    rfl
  · rw [run_convert_bytes_string w src dst e _ _ _ hs he hd]
    have hl : (loadCells ad bs.length).run P w = .ok ((bs.map fun x => (x.toNat : Int)).map (Value.int .u8)).toArray w := by
      have := run_loadCells_list (P := P) w ad (bs.map bv) hr
      rw [List.length_map] at this
      rw [List.map_map]
      exact this
    rw [run_bytesToString w ad bs.length c _ hl]
    congr 2
    have : ∀ (l : List UInt8) (s : ByteArray), (l.map fun x => (x.toNat : Int)).foldl (fun r n => r.push (UInt8.ofNat n.toNat)) s = ⟨s.data ++ l.toArray⟩ := by
      intro l
      induction l with
      | nil => intro s; simp
      | cons x l ih =>
        intro s
        simp only [List.map_cons, List.foldl_cons]
        rw [ih]
        simp [ByteArray.push]
    rw [this]
    simp [ByteArray.empty, ByteArray.emptyWithCapacity]
    rfl

end Go.Proofs.Ytifnjdplbdpelaa
