/- What Save and Load leave of a disk, and tell. Our own definitions; no statement of the seat is proved here. -/
import Derived.Test.YtoabpjdpdcpdlaaHeadPure
import Derived.Test.YtoabpjdpdcpdlaaEnv2
namespace Go.Proofs.Ytoabpjdpdcpdlaa
open Go.RowKit

/-- What Write of bytes to slot i leaves; what SyncHead leaves; the error of both. -/
def wrA (A : AD) (i : Nat) (bs : List UInt8) : AD := if A.dead then A else if A.calls = 0 then { A with dead := true } else A.tick.wrote i bs
def shA (A : AD) : AD := if A.dead then A else if A.calls = 0 then { A with dead := true } else A.tick.syncedHead
def chE (A : AD) : Int := if A.dead then 3 else if A.calls = 0 then 3 else 0
/-- With a Serial one more. -/
def HeadD.next (h : HeadD) : HeadD := ⟨(h.s + 1) % 18446744073709551616, h.e, h.l⟩
def saveE (A : AD) (h : HeadD) : Int := if h.next.right then (if chE A = 0 then chE (wrA A (h.next.s % 2) h.next.bytes) else chE A) else 50
def saveD (A : AD) (h : HeadD) : AD := if h.next.right then (if chE A = 0 then shA (wrA A (h.next.s % 2) h.next.bytes) else wrA A (h.next.s % 2) h.next.bytes) else A
def saveH (A : AD) (h : HeadD) : HeadD := if saveE A h = 0 then h.next else ⟨0, 0, 0⟩
def loadE (A : AD) : Int := if A.dead then 3 else if (pickH (A.sh 0) (A.sh 1)).isSome then 0 else 50
def loadH (A : AD) : HeadD := if A.dead then ⟨0, 0, 0⟩ else pickV (A.sh 0) (A.sh 1)

theorem HeadD.next_fits {h : HeadD} (hf : h.fits) : h.next.fits := ⟨Nat.mod_lt _ (by omega), hf.2.1, hf.2.2⟩
theorem HeadD.next_s {h : HeadD} (hs : h.s + 1 < 18446744073709551616) : h.next.s = h.s + 1 := Nat.mod_eq_of_lt hs
theorem HeadD.next_right {h : HeadD} (hs : h.s + 1 < 18446744073709551616) (hl : h.l ≤ 1) : h.next.right = true :=
  HeadD.right_iff.2 ⟨by rw [HeadD.next_s hs]; omega, hl⟩

/-- A disk that lives and has no fuse. -/
structure Calm (A : AD) : Prop where
  live : A.dead = false
  calls : A.calls = -1
/-- What the slots have behind saves: last in its slot, prev in the other one; noughts where none was saved. All of it is safe. -/
structure Slots (A : AD) (last prev : HeadD) : Prop where
  calm : Calm A
  safe : ∀ i, i < 2 → A.sf i = A.sh i
  fits : last.fits
  none : last.s = 0 → last = ⟨0, 0, 0⟩ ∧ A.sh 0 = List.replicate 32 0 ∧ A.sh 1 = List.replicate 32 0
  some : last.s ≠ 0 → last.right = true ∧ A.sh (last.s % 2) = last.bytes
  one : last.s = 1 → A.sh 0 = List.replicate 32 0
  two : 2 ≤ last.s → A.sh ((last.s + 1) % 2) = prev.bytes ∧ prev.s + 1 = last.s ∧ prev.fits ∧ prev.right = true

theorem Slots.new (c : Int) : Slots (AD.new c) ⟨0, 0, 0⟩ ⟨0, 0, 0⟩ := by
  refine ⟨⟨rfl, rfl⟩, fun i _ => rfl, ⟨by decide, by decide, by decide⟩, fun _ => ⟨rfl, rfl, rfl⟩, fun h => (h rfl).elim, fun h => ?_, fun h => ?_⟩
  · exact absurd h (by decide)
  · exact absurd h (by decide)

theorem not_head_noughts : isHead (List.replicate 32 (0 : UInt8)) = false := by decide +kernel

/-- What is picked: of slot i the head h, and the other one's does not count, or less. -/
theorem pick_at {X : Nat → List UInt8} {h : HeadD} (hf : h.fits) (hr : h.right = true) (hx : X (h.s % 2) = h.bytes)
    (ho : isHead (X ((h.s + 1) % 2)) = true → (headOf (X ((h.s + 1) % 2))).s % 2 = (h.s + 1) % 2 → (headOf (X ((h.s + 1) % 2))).s < h.s) : pickH (X 0) (X 1) = Option.some h := by
  obtain ⟨i1, i2⟩ := read_bytes hf hr
  rcases Nat.mod_two_eq_zero_or_one h.s with e | e
  · have e1 : (h.s + 1) % 2 = 1 := by omega
    rw [e] at hx
    rw [e1] at ho
    unfold pickH
    rw [hx, i1, i2]
    by_cases c : isHead (X 1) = true
    · by_cases c2 : (headOf (X 1)).s % 2 = 1
      · have := ho c c2
        simp [c, c2, e, show ¬ (h.s < (headOf (X 1)).s) by omega]
      · simp [c, c2, e]
    · simp [c, e]
  · have e1 : (h.s + 1) % 2 = 0 := by omega
    rw [e] at hx
    rw [e1] at ho
    unfold pickH
    rw [hx, i1, i2]
    by_cases c : isHead (X 0) = true
    · by_cases c2 : (headOf (X 0)).s % 2 = 0
      · have := ho c c2
        simp [c, c2, e, show ((headOf (X 0)).s < h.s) by omega]
      · simp [c, c2, e]
    · simp [c, e]
theorem pick_none {X : Nat → List UInt8} (h0 : isHead (X 0) = false) (h1 : isHead (X 1) = false) : pickH (X 0) (X 1) = Option.none := by
  simp [pickH, h0, h1]

theorem load_some {A : AD} {h : HeadD} (hd : A.dead = false) (hp : pickH (A.sh 0) (A.sh 1) = Option.some h) : loadE A = 0 ∧ loadH A = h := by
  simp [loadE, loadH, hd, hp, pickV]
theorem load_none {A : AD} (hd : A.dead = false) (hp : pickH (A.sh 0) (A.sh 1) = Option.none) : loadE A = 50 ∧ loadH A = ⟨0, 0, 0⟩ := by
  simp [loadE, loadH, hd, hp, pickV]

/-- The other slot has less. -/
theorem Slots.less {A : AD} {last prev : HeadD} (h : Slots A last prev) (h0 : last.s ≠ 0) : isHead (A.sh ((last.s + 1) % 2)) = true → (headOf (A.sh ((last.s + 1) % 2))).s < last.s := by
  intro hi
  by_cases h1 : last.s = 1
  · rw [h1, show (1 + 1) % 2 = 0 from rfl, h.one h1, not_head_noughts] at hi
    cases hi
  · obtain ⟨a, b, c, d⟩ := h.two (by omega)
    rw [a, (read_bytes c d).2]
    omega
theorem Slots.load {A : AD} {last prev : HeadD} (h : Slots A last prev) (h0 : last.s ≠ 0) : loadE A = 0 ∧ loadH A = last :=
  load_some h.calm.live (pick_at h.fits (h.some h0).1 (h.some h0).2 fun hi _ => h.less h0 hi)
theorem Slots.load0 {A : AD} {last prev : HeadD} (h : Slots A last prev) (h0 : last.s = 0) : loadE A = 50 ∧ loadH A = ⟨0, 0, 0⟩ :=
  load_none h.calm.live (pick_none (by rw [(h.none h0).2.1]; exact not_head_noughts) (by rw [(h.none h0).2.2]; exact not_head_noughts))

/-- A save where nothing kills. -/
theorem save_calm {A : AD} {h : HeadD} (hd : A.dead = false) (hc : A.calls = -1 ∨ 2 ≤ A.calls) (hr : h.next.right = true) : saveE A h = 0 ∧ saveH A h = h.next ∧ saveD A h = (A.tick.wrote (h.next.s % 2) h.next.bytes).tick.syncedHead := by
  have e1 : A.calls ≠ 0 := by omega
  have e2 : (A.tick.wrote (h.next.s % 2) h.next.bytes).calls ≠ 0 := by
    show (if 0 < A.calls then A.calls - 1 else A.calls) ≠ 0
    split <;> omega
  have e3 : wrA A (h.next.s % 2) h.next.bytes = A.tick.wrote (h.next.s % 2) h.next.bytes := by simp [wrA, hd, e1]
  have e4 : (A.tick.wrote (h.next.s % 2) h.next.bytes).dead = false := hd
  have c1 : chE A = 0 := by simp [chE, hd, e1]
  have c2 : chE (A.tick.wrote (h.next.s % 2) h.next.bytes) = 0 := by simp [chE, e4, e2]
  have hE : saveE A h = 0 := by simp [saveE, hr, c1, e3, c2]
  exact ⟨hE, by simp [saveH, hE], by simp [saveD, hr, c1, e3, shA, e4, e2]⟩
end Go.Proofs.Ytoabpjdpdcpdlaa
