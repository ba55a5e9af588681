/- A loop over a function that hands on what it has laid itself: what is handed on is told of, in the world in which it is. Our own law; no statement of the seat is proved here. -/
import Derived.Test.YtbbglgfgelnncaaGen
import Derived.RangeFuncNested
import Derived.RangeFuncBound
import Derived.RangeFuncCalls
import Derived.RangeFuncLeaves
import Derived.Shelf.Abstract
import Derived.Shelf.RegionOpen
import Derived.WalkKit
import Derived.OwnWalkIn
import Derived.TacticsInMore
import Derived.LoopNIn
import Derived.LoopIn
namespace Go.Proofs.Ytbbglgfgelnncaa
open Go.RowKit

/-- The contract of a function that is ranged over: x is handed on in a world in which R x holds. -/
def Told {α : Type} (F : Fence) (n : Nat) (P : Program) (g : Nat) (lb : Array Value) (encs : α → Array Value) (R : α → World → Prop) (Kp : World → World → Prop) (S Sp : List α → Prop) (N : Nat) (w : World) : Prop :=
  ∀ (l : Nat) (J Jx : List α → World → Prop) (W : World), Below w.heap.size w W → (∀ pre A B, J pre A → Below A.heap.size A B → J pre B) →
    (∀ pre x A, J pre A → R x A → pre.length < N → YieldAt F (n - 1) P l (encs x) A fun e B => (e = .returned (.bool true) ∧ J (pre ++ [x]) B ∧ Kp A B) ∨ (e = .returned (.bool false) ∧ Jx (pre ++ [x]) B)) →
    J [] W → CallsIn F n P g (#[.func (.yield l) #[] #[]] ++ lb) W fun e B => (∃ v, e = .returned v) ∧ ((∃ xs, S xs ∧ J xs B) ∨ (∃ pre, Sp pre ∧ Jx pre B))

theorem below_grown {A B : World} (h : Below A.heap.size A B) : A.grownBy B none := ⟨h.os, h.tape, h.output, h.size, fun k hk _ => h.block k hk⟩

section
variable {F : Fence} {P : Program} {α : Type}

/-- The loop's two blocks. -/
structure Book (l D : Nat) (r : Loop) (W : World) : Prop where
  rcd : W.heap[l]? = some (.loop r)
  dfr : W.heap[D]? = some (.deferred (some []))
theorem Book.put {l D : Nat} {r : Loop} {W : World} (h : Book l D r W) (hne : D ≠ l) (r' : Loop) : Book l D r' (W.putObj l (.loop r')) :=
  ⟨World.putObj_heap_same (Array.getElem?_eq_some_iff.1 h.rcd).1, (World.putObj_heap_other hne).trans h.dfr⟩
theorem Book.from {B l D : Nat} {r : Loop} {W W' : World} (h : Book l D r W) (hl : B ≤ l) (hD : B ≤ D) (hk : KeepsFrom B W W') : Book l D r W' := ⟨hk.same l _ hl h.rcd rfl, hk.same D _ hD h.dfr rfl⟩
theorem Book.later {l D : Nat} {r : Loop} {W W' : World} (h : Book l D r W) (hb : Below W.heap.size W W') : Book l D r W' :=
  ⟨(hb.block l (Array.getElem?_eq_some_iff.1 h.rcd).1).trans h.rcd, (hb.block D (Array.getElem?_eq_some_iff.1 h.dfr).1).trans h.dfr⟩

/-- One round. -/
theorem told_round {m B l D : Nat} {rc : LoopState → Option Code → Loop} {fn : FuncId} {tmps : Array Value} {ps : Array Tmp} {assign body : Code} {encs : α → Array Value} {Kp : World → World → Prop} {I : List α → World → Prop} {Ix : Code → List α → World → Prop} {Ax : Act → World → Prop}
    (hrc : rc = fun st pe => { state := st, pending := pe, fn := fn, tmps := tmps, params := ps, assign := assign, body := body, defers := D }) (hfn : F.fn fn) (hl : B ≤ l) (hD : B ≤ D) (hne : D ≠ l)
    (hKt : ∀ {X Y Z : World}, Kp X Y → Kp Y Z → Kp X Z) (hKb : ∀ (W : World) (o o' : Obj), W.heap[l]? = some o → o.isCells = false → o.isWalk = false → Kp W (W.putObj l o')) (hI : OwnFrom B I) (hIx : ∀ c, OwnFrom B (Ix c)) (hAx : ∀ a', OwnFrom B (fun (_ : Unit) W => Ax a' W))
    {pre : List α} {x : α} {W : World} (hps : (encs x).size = ps.size) (hb : Book l D (rc .ready none) W)
    (hassign : ∀ K : Act → World → Prop, (∀ a' W', KeepsFrom B W W' → Kp W W' → I pre W' → Ax a' W' → K a' W') → assign.wpIn (F.inRound l) m P (Exit.then K (fun _ _ _ => False)) { tmps := (ps.zip (encs x)).foldl (fun t (p, v) => t.setIfInBounds p v) tmps, defers := [] } W)
    (hbody : ∀ a' W', I pre W' → Ax a' W' → body.wpIn (F.inRound l) m P (ownPostG B Kp I Ix (pre ++ [x]) W') a' W') :
    YieldAt F m P l (encs x) W fun e W' => (e = .returned (.bool true) ∧ (I (pre ++ [x]) W' ∧ Book l D (rc .ready none) W') ∧ Kp W W') ∨ (e = .returned (.bool false) ∧ ∃ c, Ix c (pre ++ [x]) W' ∧ Book l D (rc .done (some c)) W') := by
  have hy := run_yield (P := P) (args := encs x) hb.rcd (by rw [hrc]; exact hps)
  rw [hrc] at hy
  refine ⟨fn, _, assign, body, hy, roundIn_of_wpIn hfn (hassign _ fun a' W1 hk1 hp1 hi1 ha1 => ?_)⟩
  have hb1 := hb.from hl hD hk1
  obtain ⟨busy, hbusy⟩ : ∃ r : Loop, r = { rc .ready none with state := .busy } := ⟨_, rfl⟩
  refine ⟨_, run_beginRound hb1.rcd (by rw [hrc]), ?_⟩
  rw [← hbusy]
  have hb2 := hb1.put hne busy
  have hp2 := hKb W1 _ (.loop busy) hb1.rcd rfl rfl
  have hi2 := hI.putObj (.loop busy) hi1 hl hb1.rcd rfl
  have ha2 := (hAx a').putObj (s := ()) (.loop busy) ha1 hl hb1.rcd rfl
  refine wpIn_mono (hbody a' _ hi2 ha2) ?_
  have ends : ∀ (j : Option Code) (W3 : World), KeepsFrom B (W1.putObj l (.loop busy)) W3 → (Instr.endRound l j).run P W3 = .ok (.bool j.isNone) (W3.putObj l (.loop (rc (if j.isNone then .ready else .done) j))) ∧ W3.heap[l]? = some (.loop busy) ∧ Book l D (rc (if j.isNone then .ready else .done) j) (W3.putObj l (.loop (rc (if j.isNone then .ready else .done) j))) := fun j W3 hk => by
    have hb3 := hb2.from hl hD hk
    refine ⟨?_, hb3.rcd, hb3.put hne _⟩
    have := run_endRound (P := P) j hb3.rcd
    rw [this, hbusy, hrc]
  rintro e a3 W3 hq
  match e, hq with
  | .normal, ⟨hk, hp, hi⟩ =>
    obtain ⟨h1, h2, h3⟩ := ends none W3 hk
    exact ⟨_, _, h1, .inl ⟨rfl, ⟨hI.putObj _ hi hl h2 rfl, h3⟩, hKt hp1 (hKt hp2 (hKt hp (hKb _ _ _ h2 rfl rfl)))⟩⟩
  | .ret, ⟨hk, hi⟩ =>
    obtain ⟨h1, h2, h3⟩ := ends (some .ret) W3 hk
    exact ⟨_, _, h1, .inr ⟨rfl, .ret, (hIx _).putObj _ hi hl h2 rfl, h3⟩⟩
  | .exit id, ⟨hk, hi⟩ =>
    obtain ⟨h1, h2, h3⟩ := ends (some (.exit id)) W3 hk
    exact ⟨_, _, h1, .inr ⟨rfl, .exit id, (hIx _).putObj _ hi hl h2 rfl, h3⟩⟩
  | .goto t, ⟨hk, hi⟩ =>
    obtain ⟨h1, h2, h3⟩ := ends (some (.goto t)) W3 hk
    exact ⟨_, _, h1, .inr ⟨rfl, .goto t, (hIx _).putObj _ hi hl h2 rfl, h3⟩⟩

/-- The whole statement. -/
theorem wpIn_told {n : Nat} {g : Operand} {ps : Array Tmp} {assign body : Code} {Q : Exit → Act → World → Prop} {a : Act} {w : World} (hro : F.round = none) (h1 : 1 ≤ n) {gf : Nat} {lb : Array Value} (hg : a.eval g = .func (.func gf) #[] lb) (hFg : F.fn gf) (eg : ∀ args w, (callFunc gf args).run P w = .ok (.enter gf args) w)
    {encs : α → Array Value} {R : α → World → Prop} {Kp : World → World → Prop} {S Sp : List α → Prop} {N : Nat} {w0 : World} (hseq : Told F (n - 1) P gf lb encs R Kp S Sp N w0)
    (hKt : ∀ {A B C : World}, Kp A B → Kp B C → Kp A C) (hKb : ∀ (W : World) (l : Nat) (o o' : Obj), w.heap.size ≤ l → W.heap[l]? = some o → o.isCells = false → o.isWalk = false → Kp W (W.putObj l o')) (hb0 : Below w0.heap.size w0 w) (hps : ∀ x, (encs x).size = ps.size)
    (I : List α → World → Prop) (Ix : Code → List α → World → Prop) (hI : OwnFrom w.heap.size I) (hIx : ∀ c, OwnFrom w.heap.size (Ix c)) (h0 : I [] w) (Ax : α → Act → World → Prop) (hAx : ∀ x a', OwnFrom w.heap.size (fun (_ : Unit) W => Ax x a' W))
    (hassign : ∀ (l : Nat) (pre : List α) (x : α) (W : World) (K : Act → World → Prop), I pre W → R x W → (∀ a' W', KeepsFrom w.heap.size W W' → Kp W W' → I pre W' → Ax x a' W' → K a' W') →
      assign.wpIn (F.inRound l) (n - 1 - 1) P (Exit.then K (fun _ _ _ => False)) { tmps := (ps.zip (encs x)).foldl (fun t (p, v) => t.setIfInBounds p v) a.tmps, defers := [] } W)
    (hbody : ∀ (l : Nat) (pre : List α) (x : α) (a' : Act) (W : World), I pre W → Ax x a' W → pre.length < N → body.wpIn (F.inRound l) (n - 1 - 1) P (ownPostG w.heap.size Kp I Ix (pre ++ [x]) W) a' W)
    (hdone : ∀ (D : Nat) (xs : List α) (W : World), w.heap.size ≤ D → S xs → I xs W → W.heap[D]? = some (.deferred (some [])) → Q .normal { a with defers := { target := .collected D, args := #[] } :: a.defers } W)
    (hstop : ∀ (D : Nat) (c : Code) (pre : List α) (W : World), w.heap.size ≤ D → Sp pre → Ix c pre W → W.heap[D]? = some (.deferred (some [])) → c.wpIn F n P Q { a with defers := { target := .collected D, args := #[] } :: a.defers } W) :
    (Code.rangeFunc g ps assign body).wpIn F n P Q a w := by
  refine wpIn_rangeFunc fun fn hfn => ?_
  rw [hro]
  obtain ⟨l, hl⟩ : ∃ l, l = w.heap.size + 1 := ⟨_, rfl⟩
  obtain ⟨rc, hrc⟩ : ∃ rc : LoopState → Option Code → Loop, rc = fun st pe => { state := st, pending := pe, fn := fn, tmps := a.tmps, params := ps, assign := assign, body := body, defers := w.heap.size } := ⟨_, rfl⟩
  obtain ⟨W1, hW1⟩ : ∃ W1, W1 = (w.alloc (.deferred (some []))).alloc (.loop (rc .ready none)) := ⟨_, rfl⟩
  have hb1 : Below w.heap.size w W1 := by rw [hW1]; exact ((Below.refl _ w).alloc (Nat.le_refl _) _).alloc (by simp) _
  have hB1 : Book l w.heap.size (rc .ready none) W1 := by
    rw [hW1, hl]
    refine ⟨?_, (Below.heap_alloc _ _ _ (by simp)).trans (World.alloc_heap_new w _)⟩
    have := World.alloc_heap_new (w.alloc (.deferred (some []))) (.loop (rc .ready none))
    rwa [World.size_alloc] at this
  refine ⟨l, [{ target := .collected w.heap.size, args := #[] }], W1, { target := .fn (.func gf) lb, args := #[.func (.yield l) #[] #[]] }, W1, gf, #[.func (.yield l) #[] #[]] ++ lb, W1, ?_, ?_, ?_, ?_, fun _ => h1, ?_⟩
  · rw [run_enterLoop_outer, hW1, hl, hrc]
  · simp only [resolve, hg]
    simp [go_sem]
  · intro f' hf'
    simp [Target.leads] at hf'
    subst hf'
    exact hFg
  · simp [invoke, go_sem, eg]
  · have hlw : w.heap.size ≤ l := by omega
    have hne : w.heap.size ≠ l := by omega
    refine (hseq l (fun pre W => I pre W ∧ Book l w.heap.size (rc .ready none) W) (fun pre W => ∃ c, Ix c pre W ∧ Book l w.heap.size (rc .done (some c)) W) W1 (hb0.trans (hb1.mono hb0.size))
      (fun pre A B hA hb => ⟨hI pre A B none hA.1 (below_grown hb) (fun r e => by cases e), hA.2.later hb⟩)
      (fun pre x A hA hR hN => told_round (P := P) (m := n - 1 - 1) (Kp := Kp) (I := I) (Ix := Ix) (Ax := Ax x) hrc hfn hlw (Nat.le_refl _) hne hKt (fun W o o' => hKb W l o o' hlw) hI hIx (hAx x) (hps x) hA.2 (fun K => hassign l pre x A K hA.1 hR) (fun a' W' hi ha => hbody l pre x a' W' hi ha hN))
      ⟨hI [] w W1 none h0 (below_grown hb1) (fun r e => by cases e), hB1⟩).mono ?_
    rintro e W2 ⟨⟨v, rfl⟩, ⟨xs, hS, hi, hb⟩ | ⟨pre, hSp, c, hi, hb⟩⟩
    · exact ⟨none, _, by rw [run_endLoop (P := P) hb.rcd (by rw [hrc]; simp), hrc], hdone _ xs _ (Nat.le_refl _) hS (hI.putObj _ hi hlw hb.rcd rfl) ((World.putObj_heap_other hne).trans hb.dfr)⟩
    · exact ⟨some c, _, by rw [run_endLoop (P := P) hb.rcd (by rw [hrc]; simp), hrc], hstop _ c pre _ (Nat.le_refl _) hSp ((hIx c).putObj _ hi hlw hb.rcd rfl) ((World.putObj_heap_other hne).trans hb.dfr)⟩
end
end Go.Proofs.Ytbbglgfgelnncaa
