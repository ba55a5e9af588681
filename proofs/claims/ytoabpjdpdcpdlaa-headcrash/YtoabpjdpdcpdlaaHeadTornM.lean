/- What a crash within a save leaves, as mathematics. No statement of the seat is proved here. -/
import Derived.Test.YtoabpjdpdcpdlaaHeadDisk2
namespace Go.Proofs.Ytoabpjdpdcpdlaa
open Go.RowKit

theorem Slots.whole {A B : AD} {last prev new : HeadD} (H : Slots A last prev) (hs : new.s = last.s + 1) (hf : new.fits) (hr : new.right = true) (hc : Calm B)
    (h1 : B.sh (new.s % 2) = new.bytes) (h2 : B.sh (last.s % 2) = A.sh (last.s % 2)) : Good B new := by
  have eP : (new.s + 1) % 2 = last.s % 2 := by omega
  refine ⟨hc, hf, hr, h1, pick_at hf hr h1 ?_⟩
  rw [eP, h2]
  intro hh _
  by_cases h0 : last.s = 0
  · rw [h0, show 0 % 2 = 0 from rfl, (H.none h0).2.1, not_head_noughts] at hh
    cases hh
  · rw [(H.some h0).2, (read_bytes H.fits (H.some h0).1).2]; omega

theorem crashed_calm (A : AD) (k : Nat → Int) : Calm (A.crashed k) := ⟨rfl, rfl⟩

/-- The slots behind a crash. -/
theorem crashed_sh (A : AD) (a b c : Int) (j : Nat) (hj : j < 2) : ∃ k, k ≤ 32 ∧ (A.crashed (kp a b c c)).sh j = (A.sh j).take k ++ (A.sf j).drop k := by
  obtain ⟨k, h1, _, h3, _⟩ := crashed_slots A a b c c j hj
  exact ⟨k, h1, h3⟩

/-- A save that a fuse of c calls kills, or not, and a crash then. -/
theorem Slots.killed {A : AD} {last prev h : HeadD} (H : Slots A last prev) (hs : h.s = last.s) (hf : h.fits) (hl : h.l ≤ 1) (hn : last.s + 1 < 18446744073709551616) (c : Nat) (hc : c < 3) (k : Int) :
    (c = 2 → saveE (A.fused c 0) h = 0 ∧ saveH (A.fused c 0) h = h.next ∧ Good ((saveD (A.fused c 0) h).crashed (kp 0 0 k k)) h.next) ∧
    (c ≠ 2 → saveE (A.fused c 0) h = 3 ∧ saveH (A.fused c 0) h = ⟨0, 0, 0⟩ ∧ (Good ((saveD (A.fused c 0) h).crashed (kp 0 0 k k)) h.next ∨ (last.s ≠ 0 ∧ Good ((saveD (A.fused c 0) h).crashed (kp 0 0 k k)) last) ∨ (last.s = 0 ∧ loadE ((saveD (A.fused c 0) h).crashed (kp 0 0 k k)) = 50 ∧ loadH ((saveD (A.fused c 0) h).crashed (kp 0 0 k k)) = ⟨0, 0, 0⟩))) := by
  have hs1 : h.next.s = last.s + 1 := by rw [HeadD.next_s (by omega), hs]
  have hr : h.next.right = true := HeadD.next_right (by omega) hl
  have hfn := HeadD.next_fits hf
  have hi : h.next.s % 2 < 2 := Nat.mod_lt _ (by decide)
  have hj : last.s % 2 < 2 := Nat.mod_lt _ (by decide)
  have hij : last.s % 2 ≠ h.next.s % 2 := by omega
  have fd : (A.fused c 0).dead = false := H.calm.live
  have fc : (A.fused c 0).calls = (c : Int) := by show max (c : Int) (-1) = c; omega
  have fsh : (A.fused c 0).sh = A.sh := rfl
  have fsf : (A.fused c 0).sf = A.sf := rfl
  have hcalm := crashed_calm (saveD (A.fused c 0) h) (kp 0 0 k k)
  generalize A.fused c 0 = F at *
  constructor
  · intro h2
    obtain ⟨a, b, d⟩ := save_calm fd (.inr (by omega)) hr
    refine ⟨a, b, ?_⟩
    have S := saved_slots F (h.next.s % 2) h.next.bytes
    rw [d] at hcalm ⊢
    refine H.whole hs1 hfn hr hcalm ?_ ?_
    · obtain ⟨q, _, e⟩ := crashed_sh ((F.tick.wrote (h.next.s % 2) h.next.bytes).tick.syncedHead) 0 0 k _ hi
      rw [e, (S _ hi).1, (S _ hi).2, if_pos rfl, take_drop_same]
    · obtain ⟨q, _, e⟩ := crashed_sh ((F.tick.wrote (h.next.s % 2) h.next.bytes).tick.syncedHead) 0 0 k _ hj
      rw [e, (S _ hj).1, (S _ hj).2, if_neg hij, take_drop_same, fsh]
  · intro h2
    rcases (show c = 0 ∨ c = 1 by omega) with h0 | h1
    · have e0 : F.calls = 0 := by omega
      have c1 : chE F = 3 := by simp [chE, fd, e0]
      have w1 : wrA F (h.next.s % 2) h.next.bytes = { F with dead := true } := by simp [wrA, fd, e0]
      have hE : saveE F h = 3 := by simp [saveE, hr, c1]
      have hD : saveD F h = { F with dead := true } := by simp [saveD, hr, c1, w1]
      refine ⟨hE, by simp [saveH, hE], ?_⟩
      rw [hD] at hcalm ⊢
      have sh : ∀ j, j < 2 → (AD.crashed { F with dead := true } (kp 0 0 k k)).sh j = A.sh j := fun j hj => by
        obtain ⟨q, _, e⟩ := crashed_sh { F with dead := true } 0 0 k j hj
        rw [e]
        show (F.sh j).take q ++ (F.sf j).drop q = _
        rw [fsh, fsf, H.safe j hj, take_drop_same]
      exact H.torn hs1 hfn hr hcalm 0 (by decide) (by rw [sh _ hi]; simp) (sh _ hj)
    · have e0 : F.calls = 1 := by omega
      have e1 : F.calls ≠ 0 := by omega
      have c1 : chE F = 0 := by simp [chE, fd, e1]
      have w1 : wrA F (h.next.s % 2) h.next.bytes = F.tick.wrote (h.next.s % 2) h.next.bytes := by simp [wrA, fd, e1]
      have t1 : (F.tick.wrote (h.next.s % 2) h.next.bytes).calls = 0 := by
        show (if 0 < F.calls then F.calls - 1 else F.calls) = 0
        rw [e0]; rfl
      have d1 : (F.tick.wrote (h.next.s % 2) h.next.bytes).dead = false := fd
      have c2 : chE (F.tick.wrote (h.next.s % 2) h.next.bytes) = 3 := by simp [chE, d1, t1]
      have s2 : shA (F.tick.wrote (h.next.s % 2) h.next.bytes) = { F.tick.wrote (h.next.s % 2) h.next.bytes with dead := true } := by simp [shA, d1, t1]
      have hE : saveE F h = 3 := by simp [saveE, hr, c1, w1, c2]
      have hD : saveD F h = { F.tick.wrote (h.next.s % 2) h.next.bytes with dead := true } := by simp only [saveD, hr, c1, w1, s2, if_true]
      refine ⟨hE, by simp [saveH, hE], ?_⟩
      rw [hD] at hcalm ⊢
      obtain ⟨q, hq, e⟩ := crashed_sh { F.tick.wrote (h.next.s % 2) h.next.bytes with dead := true } 0 0 k _ hi
      obtain ⟨q', hq', e'⟩ := crashed_sh { F.tick.wrote (h.next.s % 2) h.next.bytes with dead := true } 0 0 k _ hj
      refine H.torn hs1 hfn hr hcalm q hq ?_ ?_
      · rw [e]
        show (upd F.sh (h.next.s % 2) h.next.bytes (h.next.s % 2)).take q ++ (F.sf (h.next.s % 2)).drop q = _
        rw [upd_same, fsf, H.safe _ hi]
      · rw [e']
        show (upd F.sh (h.next.s % 2) h.next.bytes (last.s % 2)).take q' ++ (F.sf (last.s % 2)).drop q' = _
        rw [upd_other _ _ hij, fsh, fsf, H.safe _ hj, take_drop_same]
end Go.Proofs.Ytoabpjdpdcpdlaa
