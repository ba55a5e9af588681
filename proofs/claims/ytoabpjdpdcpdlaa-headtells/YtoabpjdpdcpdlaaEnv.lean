/- The contracts of package disk over 'Now': what holds of the disk, and of all else, since a world w0. No statement of the seat is proved here. -/
import Derived.Test.YtoabpjdpdcpdlaaMeth8
namespace Go.Proofs.Ytoabpjdpdcpdlaa
open Go.RowKit

theorem wpList_max2 {P : Program} {w : World} {ops : Array Oper} {rest : List Oper} {op : Oper} {a : Act} {Q : Exit → Act → World → Prop} (hgd : op.guard = none) (x y : Operand) (t s : TypeId)
    (ho : op.op = .call { callee := .builtin .max, args := #[x, y], argTypes := #[t, s] }) (k k' : IntKind) (m n : Int) (hx : a.eval x = .int k m) (hy : a.eval y = .int k' n)
    (h : wpList P ops Q rest (a.put op.dst (.int k (max m n))) w) : wpList P ops Q (op :: rest) a w := by
  refine wpList_plain hgd fun K hK => ?_
  have hrun : (Builtin.max_ #[t, s] op.type #[.int k m, .int k' n]).run P w = .ok (.int k (max m n)) w := by
    rw [run_max_int2]; congr 2; split <;> omega
  unfold Oper.wp
  simp [execOp, ho, resolve, invoke, builtin, hx, hy, hrun, Result.andThen]
  exact hK _ _ h

theorem Bytes.drop {w : World} {q n c m : Nat} {bs : List UInt8} (h : Bytes w (.slice (some ⟨q, 0, none⟩) n c) bs) (hl : bs.length = n) (hm : m ≤ n) : Bytes w (.slice (some ⟨q, m, none⟩) (n - m) (c - m)) (bs.drop m) := by
  rcases h with ⟨hv, _⟩ | ⟨ad, c', hv, hl1, hl2, hr⟩
  · cases hv
  · simp only [Value.slice.injEq, Option.some.injEq] at hv
    obtain ⟨rfl, _, rfl⟩ := hv
    refine .inr ⟨_, c - m, by rw [List.length_drop, hl], by rw [List.length_drop]; omega, by omega, fun j x hx => ?_⟩
    have := hr (m + j) x (by rw [List.map_drop, List.getElem?_drop] at hx; exact hx)
    rw [Addr.add_mid] at this ⊢
    rwa [Nat.zero_add] at this

section
variable {w0 w : World} {p : Nat} {D : Nat → Prop} {A : AD}

theorem Now.start {v : Nat → Value} (h : DiskIs w p D v A) : Now D p A w w := ⟨D, v, h, Step.refl D w⟩
theorem Now.trans {D' : Nat → Prop} {A' : AD} {w' : World} (h : Step D D' w0 w) (k : Now D' p A' w w') : Now D p A' w0 w' := by
  obtain ⟨D2, v2, k1, k2⟩ := k
  exact ⟨D2, v2, k1, h.trans k2⟩
theorem Now.alloc (h : Now D p A w0 w) (o : Obj) : Now D p A w0 (w.alloc o) := by
  obtain ⟨D', v', h1, h2⟩ := h
  exact ⟨D', v', h1.alloc o, h2.alloc o⟩
theorem Now.drewN (h : Now D p A w0 w) (n : Nat) : Now D p A w0 (w.drewN n) := by
  obtain ⟨D', v', h1, h2⟩ := h
  exact ⟨D', v', h1.drewN n, h2.drewN n⟩
theorem Now.fresh (h : Now D p A w0 w) {w' : World} {r : Value} {bs : List UInt8} (hf : Fresh w w' r bs) : Now D p A w0 w' := by
  obtain ⟨D', v', h1, h2⟩ := h
  exact ⟨D', v', hf.disk h1, h2.fresh w' hf⟩
/-- Whatever leaves all that was there alone. -/
theorem Now.below (h : Now D p A w0 w) {w' : World} (hb : Below w.heap.size w w') : Now D p A w0 w' := by
  obtain ⟨D', v', h1, h2⟩ := h
  exact ⟨D', v', h1.kept hb.size fun k hk => hb.block k (h1.lt k hk), h2.trans ⟨hb.os, hb.tape, hb.output, hb.size, fun k hk _ => hb.block k hk, fun _ x => .inl x⟩⟩
theorem Now.size (h : Now D p A w0 w) : w0.heap.size ≤ w.heap.size := by
  obtain ⟨_, _, _, h2⟩ := h
  exact h2.size
theorem Now.cell (h : Now D p A w0 w) {a : Addr} {x : Value} (hc : w0.cell? a = some x) (hn : ¬ D a.block) : w.cell? a = some x := by
  obtain ⟨_, _, _, h2⟩ := h
  exact h2.cell hc hn
theorem Now.bytes (h : Now D p A w0 w) {u : Value} {bs : List UInt8} (hb : Bytes w0 u bs) (hn : bs ≠ [] → ∀ k, u.ownBlock = some k → ¬ D k) : Bytes w u bs := by
  obtain ⟨_, _, _, h2⟩ := h
  exact h2.bytes hb hn
theorem Now.toBelow (h : Now D p A w0 w) {B : Nat} (hB : B ≤ w0.heap.size) (hD : ∀ k, D k → B ≤ k) : Below B w0 w := by
  obtain ⟨_, _, _, h2⟩ := h
  exact h2.below hB hD
theorem Now.okA (h : Now D p A w0 w) : A.Ok := by
  obtain ⟨_, _, h1, _⟩ := h
  exact h1.ok

/-- Bytes whose block the disk does not own: there are none, or it was there, and is not of D. -/
def Off (D : Nat → Prop) (w0 : World) (u : Value) (bs : List UInt8) : Prop := bs ≠ [] → ∀ k, u.ownBlock = some k → ¬ D k ∧ k < w0.heap.size

theorem Off.not {u : Value} {bs : List UInt8} (h : Off D w0 u bs) : bs ≠ [] → ∀ k, u.ownBlock = some k → ¬ D k := fun hb k hk => (h hb k hk).1
theorem Off.later {u : Value} {bs : List UInt8} (h : Off D w0 u bs) {D' : Nat → Prop} (hs : Step D D' w0 w) : bs ≠ [] → ∀ k, u.ownBlock = some k → ¬ D' k := fun hb k hk => hs.notOwn (h hb k hk).2 (h hb k hk).1
theorem Bytes.off {u : Value} {bs : List UInt8} (h : Bytes w0 u bs) (hD : ∀ k, D k → w0.heap.size ≤ k) : Off D w0 u bs := fun hb k hk => ⟨fun hd => by have := h.lt hb k hk; have := hD k hd; omega, h.lt hb k hk⟩
theorem Off.cut {a : Option Addr} {n c n' c' : Nat} {bs bs' : List UInt8} (h : Off D w0 (.slice a n c) bs) (hb : bs' ≠ [] → bs ≠ []) : Off D w0 (.slice a n' c') bs' := fun hn k hk => h (hb hn) k (by cases a <;> exact hk)

theorem nWrite_ok (h : Now D p A w0 w) (hd : A.dead = false) (hc : A.calls ≠ 0) (i : Nat) (hi : i < 2) (a : Option Addr) (c : Nat) (bs : List UInt8) (hu : Bytes w0 (.slice a 32 c) bs) (hn : Off D w0 (.slice a 32 c) bs) (hb : bs.length = 32) :
    Calls Try.prog 31 #[.pointer (some ⟨p, 0, none⟩), .int .i64 i, .slice a 32 c] w fun e w' => e = .returned (.int .i64 0) ∧ Now D p (A.tick.wrote i bs) w0 w' := by
  obtain ⟨D', v', h1, h2⟩ := h
  exact (write_ok h1 hd hc i hi a c bs (h2.bytes hu hn.not) (hn.later h2) hb).mono fun _ _ ⟨he, hN⟩ => ⟨he, Now.trans h2 hN⟩

theorem nWrite_arg (h : Now D p A w0 w) (hd : A.dead = false) (s : Int) (a : Option Addr) (n c : Nat) (hb : (s < 0 ∨ 2 ≤ s) ∨ (0 ≤ s ∧ s < 2 ∧ n ≠ 32)) :
    Calls Try.prog 31 #[.pointer (some ⟨p, 0, none⟩), .int .i64 s, .slice a n c] w fun e w' => e = .returned (.int .i64 2) ∧ Now D p A w0 w' := by
  obtain ⟨D', v', h1, h2⟩ := h
  exact (write_arg h1 hd s a n c hb).mono fun _ _ ⟨he, hN⟩ => ⟨he, Now.trans h2 hN⟩

theorem nSyncHead_ok (h : Now D p A w0 w) (hd : A.dead = false) (hc : A.calls ≠ 0) : Calls Try.prog 32 #[.pointer (some ⟨p, 0, none⟩)] w fun e w' => e = .returned (.int .i64 0) ∧ Now D p A.tick.syncedHead w0 w' := by
  obtain ⟨D', v', h1, h2⟩ := h
  exact (syncHead_ok h1 hd hc).mono fun _ _ ⟨he, hN⟩ => ⟨he, Now.trans h2 hN⟩

theorem nCrash (h : Now D p A w0 w) (a b c d : Int) : Calls Try.prog 27 #[.pointer (some ⟨p, 0, none⟩), .agg #[.int .i64 a, .int .i64 b, .int .i64 c, .int .i64 d]] w fun e w' => e = .returned (.tuple #[]) ∧ Now D p (A.crashed (kp a b c d)) w0 w' := by
  obtain ⟨D', v', h1, h2⟩ := h
  exact (crash4 h1 a b c d).mono fun _ _ ⟨he, hN⟩ => ⟨he, Now.trans h2 hN⟩

theorem nRead_ok (h : Now D p A w0 w) (hd : A.dead = false) (i : Nat) (hi : i < 2) : Calls Try.prog 48 #[.pointer (some ⟨p, 0, none⟩), .int .i64 i] w fun e w' => ∃ r, e = .returned r ∧ Fresh w w' r (A.x i) ∧ Now D p A w0 w' := by
  have h0 := h
  obtain ⟨D', v', h1, h2⟩ := h
  exact (read_ok h1 hd i hi).mono fun _ _ ⟨r, he, hF⟩ => ⟨r, he, hF, h0.fresh hF⟩

theorem nRead_none (h : Now D p A w0 w) (s : Int) (hs : A.dead = true ∨ s < 0 ∨ 2 ≤ s) : Calls Try.prog 48 #[.pointer (some ⟨p, 0, none⟩), .int .i64 s] w fun e w' => e = .returned (.slice none 0 0) ∧ w' = w := by
  obtain ⟨D', v', h1, h2⟩ := h
  exact read_none h1 s hs

theorem nHead_ok (h : Now D p A w0 w) (hd : A.dead = false) (i : Nat) (hi : i < 2) : Calls Try.prog 30 #[.pointer (some ⟨p, 0, none⟩), .int .i64 i] w fun e w' => ∃ r, e = .returned r ∧ Fresh w w' r (A.sh i) ∧ Now D p A w0 w' := by
  have h0 := h
  obtain ⟨D', v', h1, h2⟩ := h
  exact (head_ok h1 hd i hi).mono fun _ _ ⟨r, he, hF⟩ => ⟨r, he, hF, h0.fresh hF⟩

theorem nHead_none (h : Now D p A w0 w) (s : Int) (hs : A.dead = true ∨ s < 0 ∨ 2 ≤ s) : Calls Try.prog 30 #[.pointer (some ⟨p, 0, none⟩), .int .i64 s] w fun e w' => e = .returned (.slice none 0 0) ∧ w' = w := by
  obtain ⟨D', v', h1, h2⟩ := h
  exact head_none h1 s hs

theorem nFree (h : Now D p A w0 w) (hd : A.dead = false) : Calls Try.prog 50 #[.pointer (some ⟨p, 0, none⟩)] w fun e w' => e = .returned (.int .i64 (A.cap - (A.x 0).length - (A.x 1).length)) ∧ w' = w := by
  obtain ⟨D', v', h1, h2⟩ := h
  exact free_alive h1 hd

theorem nDead (h : Now D p A w0 w) : Calls Try.prog 40 #[.pointer (some ⟨p, 0, none⟩)] w fun e w' => e = .returned (.bool A.dead) ∧ w' = w := by
  obtain ⟨D', v', h1, h2⟩ := h
  exact dead_any h1

/-- Anew from here: what was made since counts as there. -/
theorem Now.anew (h : Now D p A w0 w) : ∃ D', Now D' p A w w ∧ Step D D' w0 w ∧ ∀ k, D' k → k < w.heap.size := by
  obtain ⟨D', v', h1, h2⟩ := h
  exact ⟨D', ⟨D', v', h1, Step.refl _ _⟩, h2, h1.lt⟩




theorem nRead0 (h : Now D p A w0 w) (hd : A.dead = false) : Calls Try.prog 48 #[.pointer (some ⟨p, 0, none⟩), .int .i64 0] w fun e w' => ∃ r, e = .returned r ∧ Fresh w w' r (A.x 0) ∧ Now D p A w0 w' := nRead_ok h hd 0 (by omega)




theorem nRead1 (h : Now D p A w0 w) (hd : A.dead = false) : Calls Try.prog 48 #[.pointer (some ⟨p, 0, none⟩), .int .i64 1] w fun e w' => ∃ r, e = .returned r ∧ Fresh w w' r (A.x 1) ∧ Now D p A w0 w' := nRead_ok h hd 1 (by omega)

/-- New, its block under a name. -/
theorem new_at (c : Int) (h0 : 0 ≤ c) (h1 : c ≤ 1048576) (w : World) (p : Nat) (hp : w.heap.size = p) : Calls Try.prog 19 #[.int .i64 c] w fun e w' => e = .returned (.tuple #[.pointer (some ⟨p, 0, none⟩), .int .i64 0]) ∧
    Now (fun k => k = p) p (AD.new c) w' w' ∧ w'.heap.size = p + 1 ∧ Below p w w' := by
  subst hp
  exact (new_ok c h0 h1 w).mono fun _ _ ⟨he, hD, hz, hb⟩ => ⟨he, Now.start hD, hz, hb⟩
end
end Go.Proofs.Ytoabpjdpdcpdlaa

namespace Go.Proofs.Ytoabpjdpdcpdlaa
open Go.RowKit

section
variable {w0 w : World} {p : Nat} {D : Nat → Prop} {A : AD}










theorem nSyncHead_dead (h : Now D p A w0 w) (hd : A.dead = true) : Calls Try.prog 32 #[.pointer (some ⟨p, 0, none⟩)] w fun e w' => e = .returned (.int .i64 3) ∧ Now D p A w0 w' := by
  obtain ⟨D', v', h1, h2⟩ := h
  exact (syncHead_dead h1 hd).mono fun _ _ ⟨he, hN⟩ => ⟨he, Now.trans h2 hN⟩
theorem nWrite_dead (h : Now D p A w0 w) (hd : A.dead = true) (s : Int) (a : Option Addr) (n c : Nat) : Calls Try.prog 31 #[.pointer (some ⟨p, 0, none⟩), .int .i64 s, .slice a n c] w fun e w' => e = .returned (.int .i64 3) ∧ Now D p A w0 w' := by
  obtain ⟨D', v', h1, h2⟩ := h
  exact (write_dead h1 hd s a n c).mono fun _ _ ⟨he, hN⟩ => ⟨he, Now.trans h2 hN⟩

theorem nFree_dead (h : Now D p A w0 w) (hd : A.dead = true) : Calls Try.prog 50 #[.pointer (some ⟨p, 0, none⟩)] w fun e w' => e = .returned (.int .i64 0) ∧ w' = w := by
  obtain ⟨D', v', h1, h2⟩ := h
  exact free_dead h1 hd
theorem nFuse (h : Now D p A w0 w) (hd : A.dead = false) (c k : Int) (hc : c ≤ 9223372036854775807) : Calls Try.prog 25 #[.pointer (some ⟨p, 0, none⟩), .int .i64 c, .int .i64 k] w fun e w' => e = .returned (.tuple #[]) ∧ Now D p (A.fused c k) w0 w' := by
  obtain ⟨D', v', h1, h2⟩ := h
  exact (fuse_alive h1 hd c k hc).mono fun _ _ ⟨he, hD, hS⟩ => ⟨he, D', v', hD, h2.trans hS⟩
theorem nFuse_dead (h : Now D p A w0 w) (hd : A.dead = true) (c k : Int) : Calls Try.prog 25 #[.pointer (some ⟨p, 0, none⟩), .int .i64 c, .int .i64 k] w fun e w' => e = .returned (.tuple #[]) ∧ w' = w := by
  obtain ⟨D', v', h1, h2⟩ := h
  exact fuse_dead h1 hd c k
end
end Go.Proofs.Ytoabpjdpdcpdlaa
