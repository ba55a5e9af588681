/- What is kept along a walk beside a disk: blocks of any kind. Our own definitions; no statement of the seat is proved here. -/
import Derived.Test.YtoabpjdpdcpdlaaHeadOk
namespace Go.Proofs.Ytoabpjdpdcpdlaa
open Go.RowKit

/-- A disk at p that holds what A tells, and blocks M that are none of its own; all that was there in w is as it was. -/
structure Kb (w W : World) (M : List (Nat × Obj)) (p : Nat) (A : AD) : Prop where
  bb : Below w.heap.size w W
  ce : ∀ q ∈ M, W.heap[q.1]? = some q.2
  dsk : ∃ D v, DiskIs W p D v A ∧ (∀ k, D k → w.heap.size ≤ k) ∧ ∀ q ∈ M, ¬ D q.1

/-- Write of 32 bytes and SyncHead, whatever the disk. -/
theorem nWrite_any {D : Nat → Prop} {w0 w : World} {p : Nat} {A : AD} (h : Now D p A w0 w) (i : Nat) (hi : i < 2) (a : Option Addr) (c : Nat) (bs : List UInt8) (hu : Bytes w0 (.slice a 32 c) bs) (hn : Off D w0 (.slice a 32 c) bs) (hb : bs.length = 32) :
    Calls Try.prog 31 #[.pointer (some ⟨p, 0, none⟩), .int .i64 ((i : Nat) : Int), .slice a 32 c] w fun e w' => e = .returned (.int .i64 (chE A)) ∧ Now D p (wrA A i bs) w0 w' := by
  obtain ⟨D', v', h1, h2⟩ := id h
  cases hd : A.dead with
  | true =>
    have e1 : chE A = 3 := by simp [chE, hd]
    have e2 : wrA A i bs = A := by simp [wrA, hd]
    rw [e1, e2]
    exact nWrite_dead h hd i _ _ _
  | false =>
    by_cases hc : A.calls = 0
    · have e1 : chE A = 3 := by simp [chE, hd, hc]
      have e2 : wrA A i bs = { A with dead := true } := by simp [wrA, hd, hc]
      rw [e1, e2]
      exact (write_kill h1 hd hc i hi _ _).mono fun e W' ⟨he, hx⟩ => ⟨he, Now.trans h2 hx⟩
    · have e1 : chE A = 0 := by simp [chE, hd, hc]
      have e2 : wrA A i bs = A.tick.wrote i bs := by simp [wrA, hd, hc]
      rw [e1, e2]
      exact nWrite_ok h hd hc i hi a c bs hu hn hb
theorem nSyncHead_any {D : Nat → Prop} {w0 w : World} {p : Nat} {A : AD} (h : Now D p A w0 w) : Calls Try.prog 32 #[.pointer (some ⟨p, 0, none⟩)] w fun e w' => e = .returned (.int .i64 (chE A)) ∧ Now D p (shA A) w0 w' := by
  obtain ⟨D', v', h1, h2⟩ := id h
  cases hd : A.dead with
  | true =>
    have e1 : chE A = 3 := by simp [chE, hd]
    have e2 : shA A = A := by simp [shA, hd]
    rw [e1, e2]
    exact nSyncHead_dead h hd
  | false =>
    by_cases hc : A.calls = 0
    · have e1 : chE A = 3 := by simp [chE, hd, hc]
      have e2 : shA A = { A with dead := true } := by simp [shA, hd, hc]
      rw [e1, e2]
      exact (syncHead_kill h1 hd hc).mono fun e W' ⟨he, hx⟩ => ⟨he, Now.trans h2 hx⟩
    · have e1 : chE A = 0 := by simp [chE, hd, hc]
      have e2 : shA A = A.tick.syncedHead := by simp [shA, hd, hc]
      rw [e1, e2]
      exact nSyncHead_ok h hd hc

section
variable {w W W' : World} {M : List (Nat × Obj)} {p : Nat} {A : AD}
theorem Kb.start (hw : Below w.heap.size w W) (hM : ∀ q ∈ M, W.heap[q.1]? = some q.2) (hn : Now (fun k => k = p) p A W' W') (hp : p = W.heap.size) (hb : Below p W W') : Kb w W' M p A := by
  subst hp
  obtain ⟨D', v, h1, h2⟩ := hn
  have hD : ∀ k, D' k → k = W.heap.size ∨ W'.heap.size ≤ k := fun k hk => h2.own k hk
  have hlt : ∀ q ∈ M, q.1 < W.heap.size := fun q hq => (Array.getElem?_eq_some_iff.1 (hM q hq)).1
  refine ⟨hw.trans (hb.mono hw.size), fun q hq => (hb.block _ (hlt q hq)).trans (hM q hq), D', v, h1, fun k hk => ?_, fun q hq hk => ?_⟩
  · have := hw.size; have := hb.size; rcases hD k hk with e | e <;> omega
  · have := hlt q hq; have := hb.size; rcases hD _ hk with e | e <;> omega
theorem Kb.later (h : Kb w W M p A) (hb : Below W.heap.size W W') : Kb w W' M p A := by
  obtain ⟨D, v, h1, h2, h3⟩ := h.dsk
  exact ⟨h.bb.trans (hb.mono h.bb.size), fun q hq => (hb.block _ (Array.getElem?_eq_some_iff.1 (h.ce q hq)).1).trans (h.ce q hq), D, v, h1.kept hb.size fun k hk => hb.block k (h1.lt k hk), h2, h3⟩
theorem Kb.new (h : Kb w W M p A) (o : Obj) : Kb w (W.alloc o) ((W.heap.size, o) :: M) p A := by
  have h' := h.later ((Below.refl _ W).alloc (Nat.le_refl _) o)
  obtain ⟨D, v, h1, h2, h3⟩ := h.dsk
  refine ⟨h'.bb, fun q hq => ?_, D, v, h1.alloc _, h2, fun q hq => ?_⟩
  · rcases List.mem_cons.1 hq with e | e
    · rw [e]; exact heap_alloc_new W _
    · exact h'.ce q e
  · rcases List.mem_cons.1 hq with e | e
    · rw [e]; exact fun hd => Nat.lt_irrefl _ (h1.lt _ hd)
    · exact h3 q e
theorem Kb.less {M' : List (Nat × Obj)} (h : Kb w W M p A) (hs : ∀ q ∈ M', q ∈ M) : Kb w W M' p A := by
  obtain ⟨D, v, h1, h2, h3⟩ := h.dsk
  exact ⟨h.bb, fun q hq => h.ce q (hs q hq), D, v, h1, h2, fun q hq => h3 q (hs q hq)⟩
theorem Kb.step (h : Kb w W M p A) : ∃ D, Now D p A W W ∧ (∀ q ∈ M, ¬ D q.1) ∧ ∀ A' W', Now D p A' W W' → Kb w W' M p A' := by
  obtain ⟨D, v, h1, h2, h3⟩ := h.dsk
  refine ⟨D, Now.start h1, h3, fun A' W' hn => ?_⟩
  have hb : Below w.heap.size W W' := hn.toBelow h.bb.size h2
  obtain ⟨D', v', k1, k2⟩ := hn
  have hlt : ∀ q ∈ M, q.1 < W.heap.size := fun q hq => (Array.getElem?_eq_some_iff.1 (h.ce q hq)).1
  refine ⟨h.bb.trans hb, fun q hq => (k2.block _ (hlt q hq) (h3 q hq)).trans (h.ce q hq), D', v', k1, fun k hk => ?_, fun q hq => k2.notOwn (hlt q hq) (h3 q hq)⟩
  rcases k2.own k hk with e | e
  · exact h2 k e
  · exact Nat.le_trans h.bb.size e
/-- A cell of a block that is kept, and that it may be written. -/
theorem Kb.cell (h : Kb w W M p A) {g : Nat} {cs : Array Value} {t : TypeId} (hm : (g, Obj.cells cs t (0, 0)) ∈ M) (k : Nat) : W.cell? ⟨g, k, none⟩ = cs[k]? := cell_of_row _ _ k _ _ _ (h.ce _ hm)
theorem Kb.frozen (h : Kb w W M p A) {g : Nat} {cs : Array Value} {t : TypeId} (hm : (g, Obj.cells cs t (0, 0)) ∈ M) (k : Nat) : W.frozen? ⟨g, k, none⟩ = false := frozen_of_row _ _ _ _ _ (h.ce _ hm)
/-- A store into the first block that is kept. -/
theorem Kb.set {g : Nat} {cs : Array Value} {t : TypeId} (h : Kb w W ((g, Obj.cells cs t (0, 0)) :: M) p A) (hg : w.heap.size ≤ g) (hne : ∀ q ∈ M, q.1 ≠ g) (k : Nat) (x : Value) : Kb w (W.setCell ⟨g, k, none⟩ x) ((g, Obj.cells (cs.setIfInBounds k x) t (0, 0)) :: M) p A := by
  obtain ⟨D, v, h1, h2, h3⟩ := h.dsk
  have hn : ¬ D g := h3 (g, Obj.cells cs t (0, 0)) (List.mem_cons_self ..)
  refine ⟨h.bb.setCell (p := ⟨g, k, none⟩) hg x, fun q hq => ?_, D, v, h1.kept (by simp [World.setCell]) fun j hj => Below.heap_setCell _ _ _ _ (fun e => hn (show D g from (show j = g from e) ▸ hj)), h2, fun q hq => ?_⟩
  · rcases List.mem_cons.1 hq with e | e
    · rw [e]; exact heap_setCell_same W g k _ _ x (h.ce (g, Obj.cells cs t (0, 0)) (List.mem_cons_self ..))
    · rw [Below.heap_setCell _ _ _ _ (hne q e)]; exact h.ce q (List.mem_cons_of_mem _ e)
  · rcases List.mem_cons.1 hq with e | e
    · rw [e]; exact hn
    · exact h3 q (List.mem_cons_of_mem _ e)
theorem Kb.set3 {g : Nat} {a b c : Value} {t : TypeId} (h : Kb w W ((g, Obj.cells #[a, b, c] t (0, 0)) :: M) p A) (hg : w.heap.size ≤ g) (hne : ∀ q ∈ M, q.1 ≠ g) (x y z : Value) : Kb w (((W.setCell ⟨g, 0, none⟩ x).setCell ⟨g, 1, none⟩ y).setCell ⟨g, 2, none⟩ z) ((g, Obj.cells #[x, y, z] t (0, 0)) :: M) p A :=
  ((h.set hg hne 0 x).set hg hne 1 y).set hg hne 2 z

theorem kbSave (ho : HeadOk) (h : Kb w W M p A) (s e l s' e' l' : Nat) (E : Int) (hf : (HeadD.mk s e l).fits) (hE : saveE A ⟨s, e, l⟩ = E) (hH : saveH A ⟨s, e, l⟩ = ⟨s', e', l'⟩) :
    Calls Try.prog 21 #[.pointer (some ⟨p, 0, none⟩), .agg #[.int .u64 ((s : Nat) : Int), .int .u64 ((e : Nat) : Int), .int .u8 ((l : Nat) : Int)]] W fun x W' => x = .returned (.tuple #[.agg #[.int .u64 ((s' : Nat) : Int), .int .u64 ((e' : Nat) : Int), .int .u8 ((l' : Nat) : Int)], .int .i64 E]) ∧ Kb w W' M p (saveD A ⟨s, e, l⟩) := by
  obtain ⟨D, hn, _, hs⟩ := h.step
  refine (ho.save D p A W W s e l hn hf).mono fun x W' ⟨hx, hN⟩ => ⟨?_, hs _ _ hN⟩
  rw [hx, hE, hH]; rfl
theorem kbLoad (ho : HeadOk) (h : Kb w W M p A) (s' e' l' : Nat) (E : Int) (hE : loadE A = E) (hH : loadH A = ⟨s', e', l'⟩) :
    Calls Try.prog 23 #[.pointer (some ⟨p, 0, none⟩)] W fun x W' => x = .returned (.tuple #[.agg #[.int .u64 ((s' : Nat) : Int), .int .u64 ((e' : Nat) : Int), .int .u8 ((l' : Nat) : Int)], .int .i64 E]) ∧ Kb w W' M p A := by
  obtain ⟨D, hn, _, hs⟩ := h.step
  refine (ho.load D p A W W hn).mono fun x W' ⟨hx, hN⟩ => ⟨?_, hs _ _ hN⟩
  rw [hx, hE, hH]; rfl
theorem kbCrash (h : Kb w W M p A) (a b c d : Int) : Calls Try.prog 27 #[.pointer (some ⟨p, 0, none⟩), .agg #[.int .i64 a, .int .i64 b, .int .i64 c, .int .i64 d]] W fun x W' => x = .returned (.tuple #[]) ∧ Kb w W' M p (A.crashed (kp a b c d)) := by
  obtain ⟨D, hn, _, hs⟩ := h.step
  exact (nCrash hn a b c d).mono fun x W' ⟨hx, hN⟩ => ⟨hx, hs _ _ hN⟩
theorem kbFuse (h : Kb w W M p A) (hd : A.dead = false) (c k : Int) (hc : c ≤ 9223372036854775807) : Calls Try.prog 25 #[.pointer (some ⟨p, 0, none⟩), .int .i64 c, .int .i64 k] W fun x W' => x = .returned (.tuple #[]) ∧ Kb w W' M p (A.fused c k) := by
  obtain ⟨D, hn, _, hs⟩ := h.step
  exact (nFuse hn hd c k hc).mono fun x W' ⟨hx, hN⟩ => ⟨hx, hs _ _ hN⟩
theorem kbSyncHead (h : Kb w W M p A) : Calls Try.prog 32 #[.pointer (some ⟨p, 0, none⟩)] W fun x W' => x = .returned (.int .i64 (chE A)) ∧ Kb w W' M p (shA A) := by
  obtain ⟨D, hn, _, hs⟩ := h.step
  exact (nSyncHead_any hn).mono fun x W' ⟨hx, hN⟩ => ⟨hx, hs _ _ hN⟩
theorem kbWrite (h : Kb w W M p A) (i : Nat) (hi : i < 2) {g : Nat} {o : Obj} (hm : (g, o) ∈ M) (k c : Nat) (bs : List UInt8) (hu : Bytes W (.slice (some ⟨g, k, none⟩) 32 c) bs) (hb : bs.length = 32) :
    Calls Try.prog 31 #[.pointer (some ⟨p, 0, none⟩), .int .i64 ((i : Nat) : Int), .slice (some ⟨g, k, none⟩) 32 c] W fun x W' => x = .returned (.int .i64 (chE A)) ∧ Kb w W' M p (wrA A i bs) := by
  obtain ⟨D, hn, hM, hs⟩ := h.step
  refine (nWrite_any hn i hi _ _ bs hu (fun _ k hk => ?_) hb).mono fun x W' ⟨hx, hN⟩ => ⟨hx, hs _ _ hN⟩
  simp [Value.ownBlock] at hk
  subst hk
  exact ⟨hM _ hm, (Array.getElem?_eq_some_iff.1 (h.ce _ hm)).1⟩
theorem kbHead (h : Kb w W M p A) (hd : A.dead = false) (i : Nat) (hi : i < 2) : Calls Try.prog 30 #[.pointer (some ⟨p, 0, none⟩), .int .i64 ((i : Nat) : Int)] W fun x W' => ∃ a c, x = .returned (.slice a 32 c) ∧ Bytes W' (.slice a 32 c) (A.sh i) ∧ Kb w W' M p A := by
  obtain ⟨D, v, h1, _⟩ := h.dsk
  refine (head_ok h1 hd i hi).mono ?_
  rintro e W' ⟨r, rfl, hF⟩
  obtain ⟨a, c, rfl, _⟩ := hF.1.form
  have hl : (A.sh i).length = 32 := h1.ok.sh i hi
  rw [hl] at hF ⊢
  exact ⟨a, c, rfl, hF.1, h.later hF.2.2⟩
theorem kbNew (hw : Below w.heap.size w W) (hM : ∀ q ∈ M, W.heap[q.1]? = some q.2) (c : Int) (h0 : 0 ≤ c) (h1 : c ≤ 1048576) : Calls Try.prog 19 #[.int .i64 c] W fun x W' => ∃ p, x = .returned (.tuple #[.pointer (some ⟨p, 0, none⟩), .int .i64 0]) ∧ Kb w W' M p (AD.new c) :=
  (new_at c h0 h1 W W.heap.size rfl).mono fun _ _ ⟨hx, hN, _, hb⟩ => ⟨_, hx, Kb.start hw hM hN rfl hb⟩
end
end Go.Proofs.Ytoabpjdpdcpdlaa
