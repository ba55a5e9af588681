/- Saves one behind the other, fuses and crashes, as mathematics. No statement of the seat is proved here. -/
import Derived.Test.YtoabpjdpdcpdlaaHeadDisk
namespace Go.Proofs.Ytoabpjdpdcpdlaa
open Go.RowKit

/-- What a save of h leaves in the slots, both what is safe and what is shown. -/
theorem saved_slots (A : AD) (i : Nat) (bs : List UInt8) (j : Nat) (hj : j < 2) : (A.tick.wrote i bs).tick.syncedHead.sh j = (if j = i then bs else A.sh j) ∧ (A.tick.wrote i bs).tick.syncedHead.sf j = (if j = i then bs else A.sh j) := by
  have e : (A.tick.wrote i bs).tick.syncedHead.sh j = (if j = i then bs else A.sh j) := rfl
  refine ⟨e, ?_⟩
  show upd (upd A.sf 0 (upd A.sh i bs 0)) 1 (upd A.sh i bs 1) j = upd A.sh i bs j
  rcases (show j = 0 ∨ j = 1 by omega) with rfl | rfl
  · rw [upd_other _ _ (by decide), upd_same]
  · rw [upd_same]
theorem tick_calm {A : AD} (h : A.calls = -1) : A.tick.calls = -1 := by
  show (if 0 < A.calls then A.calls - 1 else A.calls) = -1
  rw [h]; rfl

theorem Slots.save {A : AD} {last prev h : HeadD} (H : Slots A last prev) (hs : h.s = last.s) (hf : h.fits) (hl : h.l ≤ 1) (hn : last.s + 1 < 18446744073709551616) :
    saveE A h = 0 ∧ saveH A h = h.next ∧ Slots (saveD A h) h.next last := by
  have hs1 : h.next.s = last.s + 1 := by rw [HeadD.next_s (by omega), hs]
  have hr : h.next.right = true := HeadD.next_right (by omega) hl
  obtain ⟨a, b, c⟩ := save_calm H.calm.live (.inl H.calm.calls) hr
  refine ⟨a, b, ?_⟩
  rw [c]
  have S := saved_slots A (h.next.s % 2) h.next.bytes
  refine ⟨⟨H.calm.live, tick_calm (A := A.tick.wrote _ _) (tick_calm H.calm.calls)⟩, fun i hi => by rw [(S i hi).1, (S i hi).2], HeadD.next_fits hf, fun h0 => by omega, fun _ => ⟨hr, ?_⟩, fun h1 => ?_, fun h2 => ⟨?_, hs1.symm, ?_, ?_⟩⟩
  · rw [(S _ (Nat.mod_lt _ (by decide))).1, if_pos rfl]
  · rw [(S 0 (by decide)).1, if_neg (by omega)]
    exact (H.none (by omega)).2.1
  · rw [(S _ (Nat.mod_lt _ (by decide))).1, if_neg (by omega)]
    rw [show (h.next.s + 1) % 2 = last.s % 2 by omega]
    exact (H.some (by omega)).2
  · exact H.fits
  · exact (H.some (by omega)).1

theorem take_drop_same (x : List UInt8) (k : Nat) : x.take k ++ x.drop k = x := List.take_append_drop k x
theorem crashed_slots (A : AD) (a b c d : Int) (j : Nat) (hj : j < 2) : ∃ k, k ≤ 32 ∧ k = keepN (if j = 0 then c else d) 32 ∧ (A.crashed (kp a b c d)).sh j = (A.sh j).take k ++ (A.sf j).drop k ∧ (A.crashed (kp a b c d)).sf j = (A.sh j).take k ++ (A.sf j).drop k := by
  rcases (show j = 0 ∨ j = 1 by omega) with rfl | rfl
  · exact ⟨_, keepN_le _ _, rfl, rfl, rfl⟩
  · exact ⟨_, keepN_le _ _, rfl, rfl, rfl⟩
theorem Slots.crash {A : AD} {last prev : HeadD} (H : Slots A last prev) (a b c d : Int) : Slots (A.crashed (kp a b c d)) last prev := by
  have S : ∀ j, j < 2 → (A.crashed (kp a b c d)).sh j = A.sh j ∧ (A.crashed (kp a b c d)).sf j = A.sh j := fun j hj => by
    obtain ⟨k, _, _, e1, e2⟩ := crashed_slots A a b c d j hj
    rw [e1, e2, H.safe j hj, take_drop_same]
    exact ⟨rfl, rfl⟩
  refine ⟨⟨rfl, rfl⟩, fun i hi => by rw [(S i hi).1, (S i hi).2], H.fits, fun h => ?_, fun h => ?_, fun h => ?_, fun h => ?_⟩
  · rw [(S 0 (by decide)).1, (S 1 (by decide)).1]; exact H.none h
  · rw [(S _ (Nat.mod_lt _ (by decide))).1]; exact H.some h
  · rw [(S 0 (by decide)).1]; exact H.one h
  · rw [(S _ (Nat.mod_lt _ (by decide))).1]; exact H.two h

/-- A head that is picked, and may be saved on. -/
structure Good (A : AD) (y : HeadD) : Prop where
  calm : Calm A
  fits : y.fits
  right : y.right = true
  at' : A.sh (y.s % 2) = y.bytes
  pick : pickH (A.sh 0) (A.sh 1) = Option.some y
theorem Slots.good {A : AD} {last prev : HeadD} (H : Slots A last prev) (h0 : last.s ≠ 0) : Good A last :=
  ⟨H.calm, H.fits, (H.some h0).1, (H.some h0).2, pick_at H.fits (H.some h0).1 (H.some h0).2 fun hi _ => H.less h0 hi⟩
theorem Good.load {A : AD} {y : HeadD} (h : Good A y) : loadE A = 0 ∧ loadH A = y := load_some h.calm.live h.pick
theorem Good.save {A : AD} {y h : HeadD} (H : Good A y) (hs : h.s = y.s) (hf : h.fits) (hl : h.l ≤ 1) (hn : y.s + 1 < 18446744073709551616) : saveE A h = 0 ∧ saveH A h = h.next ∧ Good (saveD A h) h.next := by
  have hs1 : h.next.s = y.s + 1 := by rw [HeadD.next_s (by omega), hs]
  have hr : h.next.right = true := HeadD.next_right (by omega) hl
  obtain ⟨a, b, c⟩ := save_calm H.calm.live (.inl H.calm.calls) hr
  refine ⟨a, b, ?_⟩
  rw [c]
  have S := saved_slots A (h.next.s % 2) h.next.bytes
  have e1 := (S (h.next.s % 2) (Nat.mod_lt _ (by decide))).1
  rw [if_pos rfl] at e1
  have e2 := (S ((h.next.s + 1) % 2) (Nat.mod_lt _ (by decide))).1
  rw [if_neg (by omega), show (h.next.s + 1) % 2 = y.s % 2 by omega, H.at'] at e2
  refine ⟨⟨H.calm.live, tick_calm (A := A.tick.wrote _ _) (tick_calm H.calm.calls)⟩, HeadD.next_fits hf, hr, e1, pick_at (HeadD.next_fits hf) hr e1 fun _ _ => ?_⟩
  rw [show (h.next.s + 1) % 2 = y.s % 2 by omega, e2, (read_bytes H.fits H.right).2]
  omega

/-- What stands behind a crash within a save of n: the new one, or the one that was; nothing, where there was none. -/
theorem Slots.torn {A B : AD} {last prev new : HeadD} (H : Slots A last prev) (hs : new.s = last.s + 1) (hf : new.fits) (hr : new.right = true) (hc : Calm B)
    (k : Nat) (hk : k ≤ 32) (h1 : B.sh (new.s % 2) = new.bytes.take k ++ (A.sh (new.s % 2)).drop k) (h2 : B.sh (last.s % 2) = A.sh (last.s % 2)) :
    Good B new ∨ (last.s ≠ 0 ∧ Good B last) ∨ (last.s = 0 ∧ loadE B = 50 ∧ loadH B = ⟨0, 0, 0⟩) := by
  have eP : (new.s + 1) % 2 = last.s % 2 := by omega
  have eN : (last.s + 1) % 2 = new.s % 2 := by omega
  by_cases hi : B.sh (new.s % 2) = new.bytes
  · refine .inl ⟨hc, hf, hr, hi, pick_at hf hr hi ?_⟩
    rw [eP, h2]
    intro hh _
    by_cases h0 : last.s = 0
    · rw [h0, show 0 % 2 = 0 from rfl, (H.none h0).2.1, not_head_noughts] at hh
      cases hh
    · rw [(H.some h0).2, (read_bytes H.fits (H.some h0).1).2]; omega
  · -- either what was, or no head
    have key : isHead (B.sh (new.s % 2)) = true → B.sh (new.s % 2) = A.sh (new.s % 2) := fun hh => by
      rw [h1] at hh hi ⊢
      by_cases h2' : 2 ≤ last.s
      · obtain ⟨a, b, c, d⟩ := H.two h2'
        rw [eN] at a
        rw [a] at hh hi ⊢
        rcases torn_heads c hf (by omega) hk hh with e | e
        · exact (hi e).elim
        · exact e
      · have z : A.sh (new.s % 2) = List.replicate 32 0 := by
          by_cases h0 : last.s = 0
          · rw [hs, h0]; exact (H.none h0).2.2
          · rw [hs, show last.s = 1 by omega]; exact H.one (by omega)
        rw [z] at hh hi ⊢
        rw [List.drop_replicate] at hh hi
        exact (hi (torn_noughts hf (by omega) hk hh)).elim
    by_cases h0 : last.s = 0
    · refine .inr (.inr ⟨h0, load_none hc.live ?_⟩)
      have z := H.none h0
      have n1 : isHead (B.sh 1) = false := by
        cases hh : isHead (B.sh 1) with
        | false => rfl
        | true =>
          have e : new.s % 2 = 1 := by omega
          rw [e] at key
          rw [key hh, z.2.2, not_head_noughts] at hh
          exact hh.symm
      rw [h0, show 0 % 2 = 0 from rfl] at h2
      exact pick_none (by rw [h2, z.2.1]; exact not_head_noughts) n1
    · refine .inr (.inl ⟨h0, hc, H.fits, (H.some h0).1, h2.trans (H.some h0).2, pick_at H.fits (H.some h0).1 (h2.trans (H.some h0).2) ?_⟩)
      rw [eN]
      intro hh _
      have e := key hh
      rw [e] at hh ⊢
      rw [← eN] at hh ⊢
      exact H.less h0 hh
end Go.Proofs.Ytoabpjdpdcpdlaa
