/- The calls of both disks, side by side in memory. No statement of the seat is proved here. -/
import Derived.Test.YtbpjlkjokafdnaaTwin6
namespace Go.Proofs.Ytbpjlkjokafdnaa
open Go.RowKit

/-- What the document's disk answered, cs', can be stored at q; then the two disks are side by side anew. -/
def Stored (w0 : World) (p q : Nat) (E : Nat → Prop) (A A' : AD) (W : World) (cs' : Array Value) (w' : World) : Prop :=
  cs'.size = 13 ∧ (storeCells ⟨q, 0, none⟩ cs'.toList 0).run Try.prog w' = .ok () (w'.setRow q cs') ∧ TW w0 p q E cs' A A' (w'.setRow q cs') ∧ ER E W (w'.setRow q cs') ∧ ER E W w'

section
variable {w0 W : World} {p q : Nat} {E : Nat → Prop} {cs : Array Value} {A A2 A' : AD}

theorem RefV.move {w w' : World} {B B' : Nat → Prop} {A : AD} {cs : Array Value} (h : RefV w B A cs) (hk : ∀ b, b < w.heap.size → B b → w'.heap[b]? = w.heap[b]? ∧ B' b) : RefV w' B' A cs := by
  have h1 : RefV w (fun b => B b ∧ B' b) A cs := h.mono fun b hlt hb => ⟨hb, (hk b hlt hb).2⟩
  have h2 : RefV w' (fun b => B b ∧ B' b) A cs := h1.kept fun b hlt hb => (hk b hlt hb.1).1
  exact h2.mono fun b _ hb => hb.2

theorem TW.load (h : TW w0 p q E cs A A2 W) : (loadVar 33 ⟨q, 0, none⟩).run Try.prog W = .ok (.agg cs) W := by
  have hr := h.row
  obtain ⟨_, _, _, _, _, _, _, h5, _⟩ := h
  have hs := h5.shape.1
  exact run_loadVar_row W q _ _ cs _ _ hr Try.underlying33 rfl (by rw [hs]; kernel_rfl)

theorem TW.disk (h : TW w0 p q E cs A A2 W) : ∃ D v, DiskIs W p D v A ∧ (∀ b, E b → ¬ D b) ∧ ∀ A' w', Now D p A' W w' → TW w0 p q E cs A' A2 w' ∧ ER E W w' := by
  obtain ⟨D, v, hD, h1, h2, h3, h4, h5, h6, h7⟩ := h
  refine ⟨D, v, hD, fun b he => (h6 b he).1, fun A' w' hN => ?_⟩
  obtain ⟨D', v', hD', hS⟩ := hN
  have hq := lt_of_row h4
  have hs := hS.size
  have h7s := h7.size
  refine ⟨⟨D', v', hD', fun k hk => ?_, hS.notOwn hq h2, h3, (hS.block q hq h2).trans h4, h5.move fun b hlt hb => ⟨hS.block b hlt hb.1, hS.notOwn hlt hb.1, hb.2⟩, fun b he => ?_, h7.trans (hS.below (by omega) h1)⟩, fun b he => ?_⟩
  · rcases hS.own k hk with h | h
    · exact h1 k h
    · omega
  · obtain ⟨x, y, z, l⟩ := h6 b he
    exact ⟨hS.notOwn l x, y, z, by omega⟩
  · obtain ⟨x, y, z, l⟩ := h6 b he
    exact hS.block b l x

theorem TW.ref (h : TW w0 p q E cs A A2 W) : ∃ B, RefV W B A2 cs ∧ (∀ b, W.heap.size ≤ b → B b) ∧ ∀ A' cs' w', RefV w' B A' cs' → Below W.heap.size W w' → Stored w0 p q E A A' W cs' w' := by
  have h0 := h
  obtain ⟨D, v, hD, h1, h2, h3, h4, h5, h6, h7⟩ := h
  refine ⟨_, h5, fun b hb => ⟨fun hd => ?_, ?_, fun he => ?_⟩, fun A' cs' w' hV hb => ⟨hV.shape.1, ?_, (h0.stored hb D v hD h1 h2 (fun b he => (h6 b he).1) hV).1, (h0.stored hb D v hD h1 h2 (fun b he => (h6 b he).1) hV).2, ER.below h0 hb⟩⟩
  · have := hD.lt b hd; omega
  · have := lt_of_row h4; omega
  · have := (h6 b he).2.2.2; omega
  · obtain ⟨z1, z2⟩ := hV.shape
    have z3 := h5.shape.1
    have := run_storeCells_from (P := Try.prog) q _ cs'.toList 0 cs w' (row_later h4 hb) (by simp; omega) (fun v hv => (Array.all_eq_true_iff_forall_mem.1 z2) v (by simpa using hv))
    simpa using this

theorem TW.refB (h : TW w0 p q E cs A A2 W) {f : FuncId} {err : Int} {s : Int} {bs : List UInt8} (hf : RefB f A2 A' err s bs) (a : Option Addr) (m c : Nat) (hu : Bytes W (.slice a m c) bs) : Calls Try.prog f #[.agg cs, .int .i64 s, .slice a m c] W fun e w' => ∃ cs', e = .returned (.tuple #[.agg cs', .int .i64 err]) ∧ Stored w0 p q E A A' W cs' w' := by
  obtain ⟨B, h1, h2, h3⟩ := h.ref
  exact (hf W B cs a m c h1 h2 hu).mono fun e w' ⟨cs', he, hV, hb⟩ => ⟨cs', he, h3 A' cs' w' hV hb⟩
theorem TW.dskB (h : TW w0 p q E cs A A2 W) {f : FuncId} {err : Int} {s : Int} {bs : List UInt8} (hf : DskB f A A' err s bs) (a : Option Addr) (m c : Nat) (hu : Bytes W (.slice a m c) bs) (hn : bs ≠ [] → ∀ k, (Value.slice a m c).ownBlock = some k → E k) : Calls Try.prog f #[.pointer (some ⟨p, 0, none⟩), .int .i64 s, .slice a m c] W fun e w' => e = .returned (.int .i64 err) ∧ TW w0 p q E cs A' A2 w' ∧ ER E W w' := by
  obtain ⟨D, v, hD, hE, hN⟩ := h.disk
  exact (hf W D v p a m c hD hu (fun hb k hk => hE k (hn hb k hk))).mono fun e w' ⟨he, hn⟩ => ⟨he, hN A' w' hn⟩

theorem TW.refS (h : TW w0 p q E cs A A2 W) {f : FuncId} {err : Int} {s : Int} (hf : RefS f A2 A' err s) : Calls Try.prog f #[.agg cs, .int .i64 s] W fun e w' => ∃ cs', e = .returned (.tuple #[.agg cs', .int .i64 err]) ∧ Stored w0 p q E A A' W cs' w' := by
  obtain ⟨B, h1, h2, h3⟩ := h.ref
  exact (hf W B cs h1 h2).mono fun e w' ⟨cs', he, hV, hb⟩ => ⟨cs', he, h3 A' cs' w' hV hb⟩
theorem TW.dskS (h : TW w0 p q E cs A A2 W) {f : FuncId} {err : Int} {s : Int} (hf : DskS f A A' err s) : Calls Try.prog f #[.pointer (some ⟨p, 0, none⟩), .int .i64 s] W fun e w' => e = .returned (.int .i64 err) ∧ TW w0 p q E cs A' A2 w' ∧ ER E W w' := by
  obtain ⟨D, v, hD, hE, hN⟩ := h.disk
  exact (hf W D v p hD).mono fun e w' ⟨he, hn⟩ => ⟨he, hN A' w' hn⟩

theorem TW.refT (h : TW w0 p q E cs A A2 W) {f : FuncId} {err : Int} {s m : Int} (hf : RefT f A2 A' err s m) : Calls Try.prog f #[.agg cs, .int .i64 s, .int .i64 m] W fun e w' => ∃ cs', e = .returned (.tuple #[.agg cs', .int .i64 err]) ∧ Stored w0 p q E A A' W cs' w' := by
  obtain ⟨B, h1, h2, h3⟩ := h.ref
  exact (hf W B cs h1 h2).mono fun e w' ⟨cs', he, hV, hb⟩ => ⟨cs', he, h3 A' cs' w' hV hb⟩
theorem TW.dskT (h : TW w0 p q E cs A A2 W) {f : FuncId} {err : Int} {s m : Int} (hf : DskT f A A' err s m) : Calls Try.prog f #[.pointer (some ⟨p, 0, none⟩), .int .i64 s, .int .i64 m] W fun e w' => e = .returned (.int .i64 err) ∧ TW w0 p q E cs A' A2 w' ∧ ER E W w' := by
  obtain ⟨D, v, hD, hE, hN⟩ := h.disk
  exact (hf W D v p hD).mono fun e w' ⟨he, hn⟩ => ⟨he, hN A' w' hn⟩

theorem TW.refZ (h : TW w0 p q E cs A A2 W) {f : FuncId} {err : Int}  (hf : RefZ f A2 A' err) : Calls Try.prog f #[.agg cs] W fun e w' => ∃ cs', e = .returned (.tuple #[.agg cs', .int .i64 err]) ∧ Stored w0 p q E A A' W cs' w' := by
  obtain ⟨B, h1, h2, h3⟩ := h.ref
  exact (hf W B cs h1 h2).mono fun e w' ⟨cs', he, hV, hb⟩ => ⟨cs', he, h3 A' cs' w' hV hb⟩
theorem TW.dskZ (h : TW w0 p q E cs A A2 W) {f : FuncId} {err : Int}  (hf : DskZ f A A' err) : Calls Try.prog f #[.pointer (some ⟨p, 0, none⟩)] W fun e w' => e = .returned (.int .i64 err) ∧ TW w0 p q E cs A' A2 w' ∧ ER E W w' := by
  obtain ⟨D, v, hD, hE, hN⟩ := h.disk
  exact (hf W D v p hD).mono fun e w' ⟨he, hn⟩ => ⟨he, hN A' w' hn⟩

theorem TW.refF (h : TW w0 p q E cs A A2 W) {f : FuncId} {s m : Int} (hf : RefF f A2 A' s m) : Calls Try.prog f #[.agg cs, .int .i64 s, .int .i64 m] W fun e w' => ∃ cs', e = .returned (.agg cs') ∧ Stored w0 p q E A A' W cs' w' := by
  obtain ⟨B, h1, h2, h3⟩ := h.ref
  exact (hf W B cs h1 h2).mono fun e w' ⟨cs', he, hV, hb⟩ => ⟨cs', he, h3 A' cs' w' hV hb⟩
theorem TW.dskF (h : TW w0 p q E cs A A2 W) {f : FuncId} {s m : Int} (hf : DskF f A A' s m) : Calls Try.prog f #[.pointer (some ⟨p, 0, none⟩), .int .i64 s, .int .i64 m] W fun e w' => e = .returned (.tuple #[]) ∧ TW w0 p q E cs A' A2 w' ∧ ER E W w' := by
  obtain ⟨D, v, hD, hE, hN⟩ := h.disk
  exact (hf W D v p hD).mono fun e w' ⟨he, hn⟩ => ⟨he, hN A' w' hn⟩

theorem TW.refC (h : TW w0 p q E cs A A2 W) {f : FuncId} {e0 e1 e2 e3 : Int} (hf : RefC f A2 A' e0 e1 e2 e3) : Calls Try.prog f #[.agg cs, .agg #[.int .i64 e0, .int .i64 e1, .int .i64 e2, .int .i64 e3]] W fun e w' => ∃ cs', e = .returned (.agg cs') ∧ Stored w0 p q E A A' W cs' w' := by
  obtain ⟨B, h1, h2, h3⟩ := h.ref
  exact (hf W B cs h1 h2).mono fun e w' ⟨cs', he, hV, hb⟩ => ⟨cs', he, h3 A' cs' w' hV hb⟩
theorem TW.dskC (h : TW w0 p q E cs A A2 W) {f : FuncId} {e0 e1 e2 e3 : Int} (hf : DskC f A A' e0 e1 e2 e3) : Calls Try.prog f #[.pointer (some ⟨p, 0, none⟩), .agg #[.int .i64 e0, .int .i64 e1, .int .i64 e2, .int .i64 e3]] W fun e w' => e = .returned (.tuple #[]) ∧ TW w0 p q E cs A' A2 w' ∧ ER E W w' := by
  obtain ⟨D, v, hD, hE, hN⟩ := h.disk
  exact (hf W D v p hD).mono fun e w' ⟨he, hn⟩ => ⟨he, hN A' w' hn⟩

theorem tRead (h : TW w0 p q E cs A A2 W) (s : Int) : Calls Try.prog 16 #[.pointer (some ⟨p, 0, none⟩), .int .i64 s] W fun e w' => ∃ r, e = .returned r ∧ FreshO W w' r (rd A s) := by
  obtain ⟨D, v, hD, _⟩ := h.disk
  exact dRead hD s
theorem tHead (h : TW w0 p q E cs A A2 W) (s : Int) : Calls Try.prog 17 #[.pointer (some ⟨p, 0, none⟩), .int .i64 s] W fun e w' => ∃ r, e = .returned r ∧ FreshO W w' r (hdOf A s) := by
  obtain ⟨D, v, hD, _⟩ := h.disk
  exact dHead hD s
theorem tFree (h : TW w0 p q E cs A A2 W) : Calls Try.prog 13 #[.pointer (some ⟨p, 0, none⟩)] W fun e w' => e = .returned (.int .i64 (frOf A)) ∧ w' = W := by
  obtain ⟨D, v, hD, _⟩ := h.disk
  exact dFree hD
theorem tDead (h : TW w0 p q E cs A A2 W) : Calls Try.prog 15 #[.pointer (some ⟨p, 0, none⟩)] W fun e w' => e = .returned (.bool A.dead) ∧ w' = W := by
  obtain ⟨D, v, hD, _⟩ := h.disk
  exact dead_any hD
theorem uRead (h : TW w0 p q E cs A A W) (s : Int) : Calls Try.prog 19 #[.agg cs, .int .i64 s] W fun e w' => ∃ r, e = .returned r ∧ Bytes w' r (rd A s) ∧ Below W.heap.size W w' := by
  obtain ⟨B, h1, _⟩ := h.ref
  exact mRead h1 h.ok s
theorem uHead (h : TW w0 p q E cs A A W) (s : Int) : Calls Try.prog 20 #[.agg cs, .int .i64 s] W fun e w' => ∃ r, e = .returned r ∧ Bytes w' r (hdOf A s) ∧ Below W.heap.size W w' := by
  obtain ⟨B, h1, _⟩ := h.ref
  exact mHead h1 h.ok s
theorem uFree (h : TW w0 p q E cs A A W) : Calls Try.prog 14 #[.agg cs] W fun e w' => e = .returned (.int .i64 (frOf A)) ∧ Below W.heap.size W w' := by
  obtain ⟨B, h1, _⟩ := h.ref
  exact mFree h1 h.ok
theorem TW.deadCell (h : TW w0 p q E cs A A2 W) : W.cell? ⟨q, 12, none⟩ = some (.bool A2.dead) := by
  obtain ⟨B, h1, _⟩ := h.ref
  exact h1.deadCell h.row
end

theorem arr13 {cs : Array Value} (h : cs.size = 13) : ∃ v0 v1 v2 v3 v4 v5 v6 v7 v8 v9 v10 v11 v12, cs = #[v0, v1, v2, v3, v4, v5, v6, v7, v8, v9, v10, v11, v12] := by
  obtain ⟨l⟩ := cs
  match l, h with
  | [v0, v1, v2, v3, v4, v5, v6, v7, v8, v9, v10, v11, v12], _ => exact ⟨v0, v1, v2, v3, v4, v5, v6, v7, v8, v9, v10, v11, v12, rfl⟩

theorem TW.size {w0 W : World} {p q : Nat} {E : Nat → Prop} {cs : Array Value} {A A2 : AD} (h : TW w0 p q E cs A A2 W) : cs.size = 13 := by
  obtain ⟨_, _, _, _, _, _, _, h5, _⟩ := h
  exact h5.shape.1

/-- A byte of an owned row, read and written. -/
theorem own_at {W : World} {a : Option Addr} {n c : Nat} {bs : List UInt8} (h : W.ownsRow 0 5 1 (.slice a n c) bs.length (bs.map bv)) (hl : bs.length = n) {k : Nat} (hk : k < n) : ∃ b x, a = some ⟨b, 0, none⟩ ∧ 0 ≤ x ∧ x < 256 ∧ W.cell? ⟨b, k, none⟩ = some (.int .u8 x) ∧ W.frozen? ⟨b, k, none⟩ = false ∧
    ∀ y : Int, 0 ≤ y → y < 256 → (W.setCell ⟨b, k, none⟩ (.int .u8 y)).ownsRow 0 5 1 (.slice a n c) (bs.set k (UInt8.ofNat y.toNat)).length ((bs.set k (UInt8.ofNat y.toNat)).map bv) := by
  have h0 := h
  subst hl
  rcases h.2 with ⟨hv, hn⟩ | ⟨g, cap, cur, hv, hb0, hg, hn, hm, hcs, htk⟩
  · omega
  · simp only [Value.slice.injEq] at hv
    obtain ⟨rfl, _, rfl⟩ := hv
    have hx : (bs.map bv)[k]? = some (bv bs[k]) := by rw [List.getElem?_map, List.getElem?_eq_getElem hk]; rfl
    have hc := h0.cells (g := g) rfl k _ hx
    refine ⟨g, (bs[k].toNat : Int), rfl, by omega, by have := bs[k].toNat_lt; omega, ?_, frozen_of_row _ _ _ _ _ hg, fun y h1 h2 => ⟨by simp, .inr ⟨g, c, cur.setIfInBounds k (.int .u8 y), by simp, hb0, ?_, by simpa using hn, hm, by simpa using hcs, ?_⟩⟩⟩
    · have hc' : W.cell? ⟨g, k, none⟩ = some (bv bs[k]) := by simpa [Addr.add_mid] using hc
      exact hc'
    · rw [heap_setCell_same _ _ _ _ _ _ hg]
    · have e : (Value.int .u8 y) = bv (UInt8.ofNat y.toNat) := by
        unfold bv
        rw [UInt8.toNat_ofNat']
        congr 1
        omega
      simp only [Nat.mul_one, List.length_set] at htk ⊢
      rw [Array.toList_setIfInBounds, e, List.map_set, ← htk, List.take_set]
end Go.Proofs.Ytbpjlkjokafdnaa
