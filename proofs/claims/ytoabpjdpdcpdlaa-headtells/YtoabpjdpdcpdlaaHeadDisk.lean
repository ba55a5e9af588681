/- What Save and Load leave of a disk, and tell. Our own definitions; no statement of the seat is proved here. -/
import Derived.Test.YtoabpjdpdcpdlaaHeadPure
import Derived.Test.YtoabpjdpdcpdlaaEnv
namespace Go.Proofs.Ytoabpjdpdcpdlaa
open Go.RowKit

/-- What Write of bytes to slot i leaves; what SyncHead leaves; the error of both. -/
def wrA (A : AD) (i : Nat) (bs : List UInt8) : AD := if A.dead then A else if A.calls = 0 then { A with dead := true } else A.tick.wrote i bs
def shA (A : AD) : AD := if A.dead then A else if A.calls = 0 then { A with dead := true } else A.tick.syncedHead
def chE (A : AD) : Int := if A.dead then 3 else if A.calls = 0 then 3 else 0
/-- With a Serial one more. -/
def HeadD.next (h : HeadD) : HeadD := ⟨(h.s + 1) % 18446744073709551616, h.e, h.l⟩
def saveE (A : AD) (h : HeadD) : Int := if h.next.right then (if chE A = 0 then chE (wrA A (h.next.s % 2) h.next.bytes) else chE A) else 50
def saveD (A : AD) (h : HeadD) : AD := if h.next.right then (if chE A = 0 then shA (wrA A (h.next.s % 2) h.next.bytes) else wrA A (h.next.s % 2) h.next.bytes) else A
def saveH (A : AD) (h : HeadD) : HeadD := if saveE A h = 0 then h.next else ⟨0, 0, 0⟩
def loadE (A : AD) : Int := if A.dead then 3 else if (pickH (A.sh 0) (A.sh 1)).isSome then 0 else 50
def loadH (A : AD) : HeadD := if A.dead then ⟨0, 0, 0⟩ else pickV (A.sh 0) (A.sh 1)

theorem HeadD.next_fits {h : HeadD} (hf : h.fits) : h.next.fits := ⟨Nat.mod_lt _ (by omega), hf.2.1, hf.2.2⟩
theorem HeadD.next_s {h : HeadD} (hs : h.s + 1 < 18446744073709551616) : h.next.s = h.s + 1 := Nat.mod_eq_of_lt hs
theorem HeadD.next_right {h : HeadD} (hs : h.s + 1 < 18446744073709551616) (hl : h.l ≤ 1) : h.next.right = true :=
  HeadD.right_iff.2 ⟨by rw [HeadD.next_s hs]; omega, hl⟩

/-- A disk that lives and has no fuse. -/
structure Calm (A : AD) : Prop where
  live : A.dead = false
  calls : A.calls = -1
/-- What the slots have behind saves: last in its slot, prev in the other one; noughts where none was saved. All of it is safe. -/
structure Slots (A : AD) (last prev : HeadD) : Prop where
  calm : Calm A
  safe : ∀ i, i < 2 → A.sf i = A.sh i
  fits : last.fits
  none : last.s = 0 → last = ⟨0, 0, 0⟩ ∧ A.sh 0 = List.replicate 32 0 ∧ A.sh 1 = List.replicate 32 0
  some : last.s ≠ 0 → last.right = true ∧ A.sh (last.s % 2) = last.bytes
  one : last.s = 1 → A.sh 0 = List.replicate 32 0
  two : 2 ≤ last.s → A.sh ((last.s + 1) % 2) = prev.bytes ∧ prev.s + 1 = last.s ∧ prev.fits ∧ prev.right = true

theorem Slots.new (c : Int) : Slots (AD.new c) ⟨0, 0, 0⟩ ⟨0, 0, 0⟩ := by
  refine ⟨⟨rfl, rfl⟩, fun i _ => rfl, ⟨by decide, by decide, by decide⟩, fun _ => ⟨rfl, rfl, rfl⟩, fun h => (h rfl).elim, fun h => ?_, fun h => ?_⟩
  · exact absurd h (by decide)
  · exact absurd h (by decide)

theorem not_head_noughts : isHead (List.replicate 32 (0 : UInt8)) = false := by decide +kernel

/-- What is picked: of slot i the head h, and the other one's does not count, or less. -/
theorem pick_at {X : Nat → List UInt8} {h : HeadD} (hf : h.fits) (hr : h.right = true) (hx : X (h.s % 2) = h.bytes)
    (ho : isHead (X ((h.s + 1) % 2)) = true → (headOf (X ((h.s + 1) % 2))).s % 2 = (h.s + 1) % 2 → (headOf (X ((h.s + 1) % 2))).s < h.s) : pickH (X 0) (X 1) = Option.some h := by
  obtain ⟨i1, i2⟩ := read_bytes hf hr
  rcases Nat.mod_two_eq_zero_or_one h.s with e | e
  · have e1 : (h.s + 1) % 2 = 1 := by omega
    rw [e] at hx
    rw [e1] at ho
    unfold pickH
    rw [hx, i1, i2]
    by_cases c : isHead (X 1) = true
    · by_cases c2 : (headOf (X 1)).s % 2 = 1
      · have := ho c c2
        simp [c, c2, e, show ¬ (h.s < (headOf (X 1)).s) by omega]
      · simp [c, c2, e]
    · simp [c, e]
  · have e1 : (h.s + 1) % 2 = 0 := by omega
    rw [e] at hx
    rw [e1] at ho
    unfold pickH
    rw [hx, i1, i2]
    by_cases c : isHead (X 0) = true
    · by_cases c2 : (headOf (X 0)).s % 2 = 0
      · have := ho c c2
        simp [c, c2, e, show ((headOf (X 0)).s < h.s) by omega]
      · simp [c, c2, e]
    · simp [c, e]
theorem pick_none {X : Nat → List UInt8} (h0 : isHead (X 0) = false) (h1 : isHead (X 1) = false) : pickH (X 0) (X 1) = Option.none := by
  simp [pickH, h0, h1]

theorem load_some {A : AD} {h : HeadD} (hd : A.dead = false) (hp : pickH (A.sh 0) (A.sh 1) = Option.some h) : loadE A = 0 ∧ loadH A = h := by
  simp [loadE, loadH, hd, hp, pickV]
theorem load_none {A : AD} (hd : A.dead = false) (hp : pickH (A.sh 0) (A.sh 1) = Option.none) : loadE A = 50 ∧ loadH A = ⟨0, 0, 0⟩ := by
  simp [loadE, loadH, hd, hp, pickV]

/-- The other slot has less. -/
theorem Slots.less {A : AD} {last prev : HeadD} (h : Slots A last prev) (h0 : last.s ≠ 0) : isHead (A.sh ((last.s + 1) % 2)) = true → (headOf (A.sh ((last.s + 1) % 2))).s < last.s := by
  intro hi
  by_cases h1 : last.s = 1
  · rw [h1, show (1 + 1) % 2 = 0 from rfl, h.one h1, not_head_noughts] at hi
    cases hi
  · obtain ⟨a, b, c, d⟩ := h.two (by omega)
    rw [a, (read_bytes c d).2]
    omega
theorem Slots.load {A : AD} {last prev : HeadD} (h : Slots A last prev) (h0 : last.s ≠ 0) : loadE A = 0 ∧ loadH A = last :=
  load_some h.calm.live (pick_at h.fits (h.some h0).1 (h.some h0).2 fun hi _ => h.less h0 hi)
theorem Slots.load0 {A : AD} {last prev : HeadD} (h : Slots A last prev) (h0 : last.s = 0) : loadE A = 50 ∧ loadH A = ⟨0, 0, 0⟩ :=
  load_none h.calm.live (pick_none (by rw [(h.none h0).2.1]; exact not_head_noughts) (by rw [(h.none h0).2.2]; exact not_head_noughts))

/-- A save where nothing kills. -/
theorem save_calm {A : AD} {h : HeadD} (hd : A.dead = false) (hc : A.calls = -1 ∨ 2 ≤ A.calls) (hr : h.next.right = true) : saveE A h = 0 ∧ saveH A h = h.next ∧ saveD A h = (A.tick.wrote (h.next.s % 2) h.next.bytes).tick.syncedHead := by
  have e1 : A.calls ≠ 0 := by omega
  have e2 : (A.tick.wrote (h.next.s % 2) h.next.bytes).calls ≠ 0 := by
    show (if 0 < A.calls then A.calls - 1 else A.calls) ≠ 0
    split <;> omega
  have e3 : wrA A (h.next.s % 2) h.next.bytes = A.tick.wrote (h.next.s % 2) h.next.bytes := by simp [wrA, hd, e1]
  have e4 : (A.tick.wrote (h.next.s % 2) h.next.bytes).dead = false := hd
  have c1 : chE A = 0 := by simp [chE, hd, e1]
  have c2 : chE (A.tick.wrote (h.next.s % 2) h.next.bytes) = 0 := by simp [chE, e4, e2]
  have hE : saveE A h = 0 := by simp [saveE, hr, c1, e3, c2]
  exact ⟨hE, by simp [saveH, hE], by simp [saveD, hr, c1, e3, shA, e4, e2]⟩
end Go.Proofs.Ytoabpjdpdcpdlaa

namespace Go.Proofs.Ytoabpjdpdcpdlaa
open Go.RowKit

/-- What a save of h leaves in the slots, both what is safe and what is shown. -/
theorem saved_slots (A : AD) (i : Nat) (bs : List UInt8) (j : Nat) (hj : j < 2) : (A.tick.wrote i bs).tick.syncedHead.sh j = (if j = i then bs else A.sh j) ∧ (A.tick.wrote i bs).tick.syncedHead.sf j = (if j = i then bs else A.sh j) := by
  have e : (A.tick.wrote i bs).tick.syncedHead.sh j = (if j = i then bs else A.sh j) := rfl
  refine ⟨e, ?_⟩
  show upd (upd A.sf 0 (upd A.sh i bs 0)) 1 (upd A.sh i bs 1) j = upd A.sh i bs j
  rcases (show j = 0 ∨ j = 1 by omega) with rfl | rfl
  · rw [upd_other _ _ (by decide), upd_same]
  · rw [upd_same]
theorem tick_calm {A : AD} (h : A.calls = -1) : A.tick.calls = -1 := by
  show (if 0 < A.calls then A.calls - 1 else A.calls) = -1
  rw [h]; rfl

theorem Slots.save {A : AD} {last prev h : HeadD} (H : Slots A last prev) (hs : h.s = last.s) (hf : h.fits) (hl : h.l ≤ 1) (hn : last.s + 1 < 18446744073709551616) :
    saveE A h = 0 ∧ saveH A h = h.next ∧ Slots (saveD A h) h.next last := by
  have hs1 : h.next.s = last.s + 1 := by rw [HeadD.next_s (by omega), hs]
  have hr : h.next.right = true := HeadD.next_right (by omega) hl
  obtain ⟨a, b, c⟩ := save_calm H.calm.live (.inl H.calm.calls) hr
  refine ⟨a, b, ?_⟩
  rw [c]
  have S := saved_slots A (h.next.s % 2) h.next.bytes
  refine ⟨⟨H.calm.live, tick_calm (A := A.tick.wrote _ _) (tick_calm H.calm.calls)⟩, fun i hi => by rw [(S i hi).1, (S i hi).2], HeadD.next_fits hf, fun h0 => by omega, fun _ => ⟨hr, ?_⟩, fun h1 => ?_, fun h2 => ⟨?_, hs1.symm, ?_, ?_⟩⟩
  · rw [(S _ (Nat.mod_lt _ (by decide))).1, if_pos rfl]
  · rw [(S 0 (by decide)).1, if_neg (by omega)]
    exact (H.none (by omega)).2.1
  · rw [(S _ (Nat.mod_lt _ (by decide))).1, if_neg (by omega)]
    rw [show (h.next.s + 1) % 2 = last.s % 2 by omega]
    exact (H.some (by omega)).2
  · exact H.fits
  · exact (H.some (by omega)).1

theorem take_drop_same (x : List UInt8) (k : Nat) : x.take k ++ x.drop k = x := List.take_append_drop k x
theorem crashed_slots (A : AD) (a b c d : Int) (j : Nat) (hj : j < 2) : ∃ k, k ≤ 32 ∧ k = keepN (if j = 0 then c else d) 32 ∧ (A.crashed (kp a b c d)).sh j = (A.sh j).take k ++ (A.sf j).drop k ∧ (A.crashed (kp a b c d)).sf j = (A.sh j).take k ++ (A.sf j).drop k := by
  rcases (show j = 0 ∨ j = 1 by omega) with rfl | rfl
  · exact ⟨_, keepN_le _ _, rfl, rfl, rfl⟩
  · exact ⟨_, keepN_le _ _, rfl, rfl, rfl⟩
theorem Slots.crash {A : AD} {last prev : HeadD} (H : Slots A last prev) (a b c d : Int) : Slots (A.crashed (kp a b c d)) last prev := by
  have S : ∀ j, j < 2 → (A.crashed (kp a b c d)).sh j = A.sh j ∧ (A.crashed (kp a b c d)).sf j = A.sh j := fun j hj => by
    obtain ⟨k, _, _, e1, e2⟩ := crashed_slots A a b c d j hj
    rw [e1, e2, H.safe j hj, take_drop_same]
    exact ⟨rfl, rfl⟩
  refine ⟨⟨rfl, rfl⟩, fun i hi => by rw [(S i hi).1, (S i hi).2], H.fits, fun h => ?_, fun h => ?_, fun h => ?_, fun h => ?_⟩
  · rw [(S 0 (by decide)).1, (S 1 (by decide)).1]; exact H.none h
  · rw [(S _ (Nat.mod_lt _ (by decide))).1]; exact H.some h
  · rw [(S 0 (by decide)).1]; exact H.one h
  · rw [(S _ (Nat.mod_lt _ (by decide))).1]; exact H.two h

/-- A head that is picked, and may be saved on. -/
structure Good (A : AD) (y : HeadD) : Prop where
  calm : Calm A
  fits : y.fits
  right : y.right = true
  at' : A.sh (y.s % 2) = y.bytes
  pick : pickH (A.sh 0) (A.sh 1) = Option.some y
theorem Slots.good {A : AD} {last prev : HeadD} (H : Slots A last prev) (h0 : last.s ≠ 0) : Good A last :=
  ⟨H.calm, H.fits, (H.some h0).1, (H.some h0).2, pick_at H.fits (H.some h0).1 (H.some h0).2 fun hi _ => H.less h0 hi⟩
theorem Good.load {A : AD} {y : HeadD} (h : Good A y) : loadE A = 0 ∧ loadH A = y := load_some h.calm.live h.pick
theorem Good.save {A : AD} {y h : HeadD} (H : Good A y) (hs : h.s = y.s) (hf : h.fits) (hl : h.l ≤ 1) (hn : y.s + 1 < 18446744073709551616) : saveE A h = 0 ∧ saveH A h = h.next ∧ Good (saveD A h) h.next := by
  have hs1 : h.next.s = y.s + 1 := by rw [HeadD.next_s (by omega), hs]
  have hr : h.next.right = true := HeadD.next_right (by omega) hl
  obtain ⟨a, b, c⟩ := save_calm H.calm.live (.inl H.calm.calls) hr
  refine ⟨a, b, ?_⟩
  rw [c]
  have S := saved_slots A (h.next.s % 2) h.next.bytes
  have e1 := (S (h.next.s % 2) (Nat.mod_lt _ (by decide))).1
  rw [if_pos rfl] at e1
  have e2 := (S ((h.next.s + 1) % 2) (Nat.mod_lt _ (by decide))).1
  rw [if_neg (by omega), show (h.next.s + 1) % 2 = y.s % 2 by omega, H.at'] at e2
  refine ⟨⟨H.calm.live, tick_calm (A := A.tick.wrote _ _) (tick_calm H.calm.calls)⟩, HeadD.next_fits hf, hr, e1, pick_at (HeadD.next_fits hf) hr e1 fun _ _ => ?_⟩
  rw [show (h.next.s + 1) % 2 = y.s % 2 by omega, e2, (read_bytes H.fits H.right).2]
  omega

/-- What stands behind a crash within a save of n: the new one, or the one that was; nothing, where there was none. -/
theorem Slots.torn {A B : AD} {last prev new : HeadD} (H : Slots A last prev) (hs : new.s = last.s + 1) (hf : new.fits) (hr : new.right = true) (hc : Calm B)
    (k : Nat) (hk : k ≤ 32) (h1 : B.sh (new.s % 2) = new.bytes.take k ++ (A.sh (new.s % 2)).drop k) (h2 : B.sh (last.s % 2) = A.sh (last.s % 2)) :
    Good B new ∨ (last.s ≠ 0 ∧ Good B last) ∨ (last.s = 0 ∧ loadE B = 50 ∧ loadH B = ⟨0, 0, 0⟩) := by
  have eP : (new.s + 1) % 2 = last.s % 2 := by omega
  have eN : (last.s + 1) % 2 = new.s % 2 := by omega
  by_cases hi : B.sh (new.s % 2) = new.bytes
  · refine .inl ⟨hc, hf, hr, hi, pick_at hf hr hi ?_⟩
    rw [eP, h2]
    intro hh _
    by_cases h0 : last.s = 0
    · rw [h0, show 0 % 2 = 0 from rfl, (H.none h0).2.1, not_head_noughts] at hh
      cases hh
    · rw [(H.some h0).2, (read_bytes H.fits (H.some h0).1).2]; omega
  · -- either what was, or no head
    have key : isHead (B.sh (new.s % 2)) = true → B.sh (new.s % 2) = A.sh (new.s % 2) := fun hh => by
      rw [h1] at hh hi ⊢
      by_cases h2' : 2 ≤ last.s
      · obtain ⟨a, b, c, d⟩ := H.two h2'
        rw [eN] at a
        rw [a] at hh hi ⊢
        rcases torn_heads c hf (by omega) hk hh with e | e
        · exact (hi e).elim
        · exact e
      · have z : A.sh (new.s % 2) = List.replicate 32 0 := by
          by_cases h0 : last.s = 0
          · rw [hs, h0]; exact (H.none h0).2.2
          · rw [hs, show last.s = 1 by omega]; exact H.one (by omega)
        rw [z] at hh hi ⊢
        rw [List.drop_replicate] at hh hi
        exact (hi (torn_noughts hf (by omega) hk hh)).elim
    by_cases h0 : last.s = 0
    · refine .inr (.inr ⟨h0, load_none hc.live ?_⟩)
      have z := H.none h0
      have n1 : isHead (B.sh 1) = false := by
        cases hh : isHead (B.sh 1) with
        | false => rfl
        | true =>
          have e : new.s % 2 = 1 := by omega
          rw [e] at key
          rw [key hh, z.2.2, not_head_noughts] at hh
          exact hh.symm
      rw [h0, show 0 % 2 = 0 from rfl] at h2
      exact pick_none (by rw [h2, z.2.1]; exact not_head_noughts) n1
    · refine .inr (.inl ⟨h0, hc, H.fits, (H.some h0).1, h2.trans (H.some h0).2, pick_at H.fits (H.some h0).1 (h2.trans (H.some h0).2) ?_⟩)
      rw [eN]
      intro hh _
      have e := key hh
      rw [e] at hh ⊢
      rw [← eN] at hh ⊢
      exact H.less h0 hh
end Go.Proofs.Ytoabpjdpdcpdlaa
