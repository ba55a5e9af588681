/- What the program's disk and the document's do keeps them alike: over what they hold alone. No statement of the seat is proved here. -/
import Derived.Test.YtbpjlkjokafdnaaTwin1
namespace Go.Proofs.Ytbpjlkjokafdnaa
open Go.RowKit

section
variable {A A1 : AD} {c : Int} {x : Nat → List UInt8} {bf : Bool} {n k : Int} {d : Bool}

theorem Agree.app (h : Agree A c x bf n k d) (i : Nat) (hi : i < 2) (bs : List UInt8) (hc : A1.cap = A.cap) (hx : A1.x = upd A.x i (A.x i ++ bs)) (hs : A1.safe = A.safe) (hsf : A1.sf = A.sf) (hsh : A1.sh = A.sh) {n' : Int} {d' : Bool} (hf : FuseOk A1 bf n' k) (hd : d' = A1.dead) :
    Agree A1 c (upd x (2 * i + 1) (x (2 * i + 1) ++ bs)) bf n' k d' := by
  refine ⟨by rw [hc]; exact h.cap, fun j hj => ?_, fun j hj => ?_, fun j hj => ?_, fun j hj => ?_, hf, hd⟩
  · rw [hx]
    by_cases e : j = i
    · subst e; rw [upd_other _ _ (by omega), upd_same, upd_same, ← List.append_assoc, h.seg j hj]
    · rw [upd_other _ _ (by omega), upd_other _ _ (by omega), upd_other _ _ e, h.seg j hj]
  · rw [upd_other _ _ (by omega), hs]; exact h.safe j hj
  · rw [upd_other _ _ (by omega), hsf]; exact h.sf j hj
  · rw [upd_other _ _ (by omega), hsf, hsh]; exact h.sh j hj

theorem Agree.same (h : Agree A c x bf n k d) (hc : A1.cap = A.cap) (hx : A1.x = A.x) (hs : A1.safe = A.safe) (hsf : A1.sf = A.sf) (hsh : A1.sh = A.sh) {bf' : Bool} {n' k' : Int} {d' : Bool} (hf : FuseOk A1 bf' n' k') (hd : d' = A1.dead) :
    Agree A1 c x bf' n' k' d' := by
  refine ⟨by rw [hc]; exact h.cap, fun j hj => ?_, fun j hj => ?_, fun j hj => ?_, fun j hj => ?_, hf, hd⟩
  · rw [hx]; exact h.seg j hj
  · rw [hs]; exact h.safe j hj
  · rw [hsf]; exact h.sf j hj
  · rw [hsf, hsh]; exact h.sh j hj

theorem Agree.sync (h : Agree A c x bf n k d) (i : Nat) (hi : i < 2) (hc : A1.cap = A.cap) (hx : A1.x = A.x) (hs : A1.safe = upd A.safe i (A.x i).length) (hsf : A1.sf = A.sf) (hsh : A1.sh = A.sh) {n' : Int} {d' : Bool} (hf : FuseOk A1 bf n' k) (hd : d' = A1.dead) :
    Agree A1 c (upd (upd x (2 * i) (x (2 * i) ++ x (2 * i + 1))) (2 * i + 1) []) bf n' k d' := by
  refine ⟨by rw [hc]; exact h.cap, fun j hj => ?_, fun j hj => ?_, fun j hj => ?_, fun j hj => ?_, hf, hd⟩
  · rw [hx]
    by_cases e : j = i
    · subst e; rw [upd_other _ _ (by omega), upd_same, upd_same, List.append_nil, h.seg j hj]
    · rw [upd_other _ _ (by omega), upd_other _ _ (by omega), upd_other _ _ (by omega), upd_other _ _ (by omega), h.seg j hj]
  · rw [hs]
    by_cases e : j = i
    · subst e; rw [upd_other _ _ (by omega), upd_same, upd_same, h.seg j hj]
    · rw [upd_other _ _ (by omega), upd_other _ _ (by omega), upd_other _ _ e]; exact h.safe j hj
  · rw [upd_other _ _ (by omega), upd_other _ _ (by omega), hsf]; exact h.sf j hj
  · rw [upd_other _ _ (by omega), upd_other _ _ (by omega), hsf, hsh]; exact h.sh j hj

theorem Agree.cut (h : Agree A c x bf n k d) (i : Nat) (hi : i < 2) (m s : Nat) (hm : m ≤ (A.x i).length) (hsm : s = min (x (2 * i)).length m) (hc : A1.cap = A.cap) (hx : A1.x = upd A.x i ((A.x i).take m)) (hs : A1.safe = upd A.safe i (min (A.safe i) m)) (hsf : A1.sf = A.sf) (hsh : A1.sh = A.sh) {n' : Int} {d' : Bool} (hf : FuseOk A1 bf n' k) (hd : d' = A1.dead) :
    Agree A1 c (upd (upd x (2 * i) (((x (2 * i) ++ x (2 * i + 1)).take m).take s)) (2 * i + 1) (((x (2 * i) ++ x (2 * i + 1)).take m).drop s)) bf n' k d' := by
  refine ⟨by rw [hc]; exact h.cap, fun j hj => ?_, fun j hj => ?_, fun j hj => ?_, fun j hj => ?_, hf, hd⟩
  · rw [hx]
    by_cases e : j = i
    · subst e; rw [upd_other _ _ (by omega), upd_same, upd_same, upd_same, List.take_append_drop, h.seg j hj]
    · rw [upd_other _ _ (by omega), upd_other _ _ (by omega), upd_other _ _ (by omega), upd_other _ _ (by omega), upd_other _ _ e, h.seg j hj]
  · rw [hs]
    by_cases e : j = i
    · subst e; rw [upd_other _ _ (by omega), upd_same, upd_same, List.length_take, List.length_take, h.seg j hj, ← h.safe j hj]; omega
    · rw [upd_other _ _ (by omega), upd_other _ _ (by omega), upd_other _ _ e]; exact h.safe j hj
  · rw [upd_other _ _ (by omega), upd_other _ _ (by omega), hsf]; exact h.sf j hj
  · rw [upd_other _ _ (by omega), upd_other _ _ (by omega), hsf, hsh]; exact h.sh j hj

theorem Agree.write (h : Agree A c x bf n k d) (i : Nat) (hi : i < 2) (bs : List UInt8) (hb : bs.length = 32) (hc : A1.cap = A.cap) (hx : A1.x = A.x) (hs : A1.safe = A.safe) (hsf : A1.sf = A.sf) (hsh : A1.sh = upd A.sh i bs) {n' : Int} {d' : Bool} (hf : FuseOk A1 bf n' k) (hd : d' = A1.dead) :
    Agree A1 c (upd x (5 + 2 * i) bs) bf n' k d' := by
  refine ⟨by rw [hc]; exact h.cap, fun j hj => ?_, fun j hj => ?_, fun j hj => ?_, fun j hj => ?_, hf, hd⟩
  · rw [hx, upd_other _ _ (by omega), upd_other _ _ (by omega)]; exact h.seg j hj
  · rw [hs, upd_other _ _ (by omega)]; exact h.safe j hj
  · rw [upd_other _ _ (by omega), hsf]; exact h.sf j hj
  · rw [hsf, hsh]
    by_cases e : j = i
    · subst e; rw [upd_same, upd_same]; exact .inr ⟨hb, rfl⟩
    · rw [upd_other _ _ (by omega), upd_other _ _ e]; exact h.sh j hj

theorem Agree.syncHead (h : Agree A c x bf n k d) (hc : A1.cap = A.cap) (hx : A1.x = A.x) (hs : A1.safe = A.safe) (hsf : A1.sf = upd (upd A.sf 0 (A.sh 0)) 1 (A.sh 1)) (hsh : A1.sh = A.sh) {n' : Int} {d' : Bool} (hf : FuseOk A1 bf n' k) (hd : d' = A1.dead) :
    Agree A1 c (upd (upd (upd (upd x 4 (A.sh 0)) 5 []) 6 (A.sh 1)) 7 []) bf n' k d' := by
  refine ⟨by rw [hc]; exact h.cap, fun j hj => ?_, fun j hj => ?_, fun j hj => ?_, fun j hj => ?_, hf, hd⟩
  · rw [hx, upd_other _ _ (by omega), upd_other _ _ (by omega), upd_other _ _ (by omega), upd_other _ _ (by omega), upd_other _ _ (by omega), upd_other _ _ (by omega), upd_other _ _ (by omega), upd_other _ _ (by omega)]; exact h.seg j hj
  · rw [hs, upd_other _ _ (by omega), upd_other _ _ (by omega), upd_other _ _ (by omega), upd_other _ _ (by omega)]; exact h.safe j hj
  · rw [hsf]
    rcases (show j = 0 ∨ j = 1 by omega) with rfl | rfl <;> rfl
  · rw [hsf, hsh]
    rcases (show j = 0 ∨ j = 1 by omega) with rfl | rfl <;> exact .inl ⟨rfl, rfl⟩

theorem head_of (h : Agree A c x bf n k d) (hok : A.Ok) {N : Nat → Nat} (hN : ∀ j, j < 8 → (x j).length = N j) (i : Nat) (hi : i < 2) : ∃ j, HeadAt N (4 + 2 * i) j ∧ j < 8 ∧ x j = A.sh i := by
  have h32 := hok.sh i hi
  rcases h.sh i hi with ⟨h1, h2⟩ | ⟨h1, h2⟩
  · refine ⟨4 + 2 * i, .inr ⟨rfl, ?_⟩, by omega, by rw [h.sf i hi, h2]⟩
    have := hN (5 + 2 * i) (by omega)
    rw [h1] at this
    show N (4 + 2 * i + 1) = 0
    rw [show 4 + 2 * i + 1 = 5 + 2 * i by omega]; simpa using this.symm
  · refine ⟨5 + 2 * i, .inl ⟨by omega, ?_⟩, by omega, h2⟩
    have := hN (5 + 2 * i) (by omega)
    rw [show 4 + 2 * i + 1 = 5 + 2 * i by omega]; omega

theorem slot_crash (h : Agree A c x bf n k d) (i : Nat) (hi : i < 2) (e : Int) : (x (5 + 2 * i)).take (keepN e (x (5 + 2 * i)).length) ++ (x (4 + 2 * i)).drop (keepN e (x (5 + 2 * i)).length) = (A.sh i).take (keepN e 32) ++ (A.sf i).drop (keepN e 32) := by
  rcases h.sh i hi with ⟨h1, h2⟩ | ⟨h1, h2⟩
  · rw [h1, h2, List.take_append_drop, h.sf i hi]
    have : keepN e ([] : List UInt8).length = 0 := by have := keepN_le e 0; simpa using this
    rw [this]; simp
  · rw [h1, h2, h.sf i hi]

theorem seg_crash (h : Agree A c x bf n k d) (i : Nat) (hi : i < 2) (e : Int) : x (2 * i) ++ (x (2 * i + 1)).take (keepN e (x (2 * i + 1)).length) = (A.x i).take (A.safe i + keepN e ((A.x i).length - A.safe i)) ∧ (x (2 * i) ++ (x (2 * i + 1)).take (keepN e (x (2 * i + 1)).length)).length = A.safe i + keepN e ((A.x i).length - A.safe i) := by
  have h1 := h.segLen i hi
  have h2 := h.safe i hi
  have h3 : (A.x i).length - A.safe i = (x (2 * i + 1)).length := by omega
  have h4 := keepN_le e (x (2 * i + 1)).length
  rw [h3, ← h.seg i hi, ← h2]
  refine ⟨?_, by rw [List.length_append, List.length_take]; omega⟩
  rw [List.take_append, Nat.add_sub_cancel_left, List.take_of_length_le (Nat.le_add_right _ _)]

theorem Agree.crash (h : Agree A c x bf n k d) (e0 e1 e2 e3 : Int) (x' : Nat → List UInt8)
    (h0 : x' = upd (upd (upd (upd (upd (upd (upd (upd x 0 (x 0 ++ (x 1).take (keepN e0 (x 1).length))) 1 []) 4 ((x 5).take (keepN e2 (x 5).length) ++ (x 4).drop (keepN e2 (x 5).length))) 5 []) 2 (x 2 ++ (x 3).take (keepN e1 (x 3).length))) 3 []) 6 ((x 7).take (keepN e3 (x 7).length) ++ (x 6).drop (keepN e3 (x 7).length))) 7 []) :
    Agree (A.crashed (kp e0 e1 e2 e3)) c x' false n k false := by
  subst h0
  have a0 := seg_crash h 0 (by omega) e0
  have a1 := seg_crash h 1 (by omega) e1
  have b0 := slot_crash h 0 (by omega) e2
  have b1 := slot_crash h 1 (by omega) e3
  refine ⟨h.cap, fun j hj => ?_, fun j hj => ?_, fun j hj => ?_, fun j hj => ?_, .inl ⟨rfl, rfl⟩, rfl⟩
  · rcases (show j = 0 ∨ j = 1 by omega) with rfl | rfl
    · show (x 0 ++ (x 1).take (keepN e0 (x 1).length)) ++ [] = _
      rw [List.append_nil]; exact a0.1
    · show (x 2 ++ (x 3).take (keepN e1 (x 3).length)) ++ [] = _
      rw [List.append_nil]; exact a1.1
  · rcases (show j = 0 ∨ j = 1 by omega) with rfl | rfl
    · exact a0.2
    · exact a1.2
  · rcases (show j = 0 ∨ j = 1 by omega) with rfl | rfl
    · exact b0
    · exact b1
  · rcases (show j = 0 ∨ j = 1 by omega) with rfl | rfl
    · exact .inl ⟨rfl, rfl⟩
    · exact .inl ⟨rfl, rfl⟩

theorem Agree.new (cp : Int) (x : Nat → List UInt8) (hx : x = upd (upd (fun _ => []) 4 (List.replicate 32 0)) 6 (List.replicate 32 0)) : Agree (AD.new cp) cp x false 0 0 false := by
  subst hx
  refine ⟨rfl, fun j hj => ?_, fun j hj => ?_, fun j hj => ?_, fun j hj => ?_, .inl ⟨rfl, rfl⟩, rfl⟩
  all_goals rcases (show j = 0 ∨ j = 1 by omega) with rfl | rfl
  all_goals first | rfl | exact .inl ⟨rfl, rfl⟩
end
end Go.Proofs.Ytbpjlkjokafdnaa
