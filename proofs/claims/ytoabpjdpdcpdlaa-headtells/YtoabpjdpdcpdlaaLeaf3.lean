/- What segment.crash and the functions on one slot do. No statement of the seat is proved here. -/
import Derived.Test.YtoabpjdpdcpdlaaLeaf2
namespace Go.Proofs.Ytoabpjdpdcpdlaa
open Go.RowKit

section
variable {w : World} {p : Nat} {D : Nat → Prop} {v : Nat → Value} {A : AD}

theorem DiskIs.drewN (h : DiskIs w p D v A) : ∀ n, DiskIs (w.drewN n) p D v A := fun _ => h.kept (Nat.le_refl _) fun _ _ => rfl
theorem Step.drewN {D E : Nat → Prop} {a b : World} (h : Step D E a b) (n : Nat) : Step D E a (b.drewN n) := ⟨h.os, h.tape, h.output, h.size, h.block, h.own⟩
theorem Now.after {w w1 w' : World} {D : Nat → Prop} (h : Step D D w w1) (k : Now D p A w1 w') : Now D p A w w' := by
  obtain ⟨D', v', k1, k2⟩ := k
  exact ⟨D', v', k1, h.trans k2⟩

/-- So many of n: none below 0, all above. -/
def keepN (k : Int) (n : Nat) : Nat := (min (max k 0) n).toNat
theorem keepN_eq (k : Int) (n : Nat) : min (max k 0) (n : Int) = keepN k n := by unfold keepN; omega
theorem keepN_le (k : Int) (n : Nat) : keepN k n ≤ n := by unfold keepN; omega

/-- Behind a crash of segment i that keeps k of what is loose. -/
def AD.crashSeg (A : AD) (i : Nat) (k : Int) : AD :=
  { A with x := upd A.x i ((A.x i).take (A.safe i + keepN k ((A.x i).length - A.safe i))), safe := upd A.safe i (A.safe i + keepN k ((A.x i).length - A.safe i)) }

theorem upd_upd {α : Type} (f : Nat → α) (i : Nat) (x y : α) : upd (upd f i x) i y = upd f i y := by
  funext j; unfold upd; split <;> rfl

set_option maxHeartbeats 400000 in
theorem segCrash_any (h : DiskIs w p D v A) (i : Nat) (hi : i < 2) (k : Int) :
    Calls Try.prog 44 #[.pointer (some ⟨p, 2 + 2 * i, none⟩), .int .i64 k] w fun e w' => e = .returned (.tuple #[]) ∧ Now D p (A.crashSeg i k) w w' := by
  have hd := h.dat i hi
  obtain ⟨a, c, hv, hle⟩ := h.slice i hi
  rw [hv] at hd
  have hs := h.saf i hi
  have hsl := h.ok.safe i hi
  have hx : ((A.x i).length : Int) ≤ 1048576 := by
    have := h.ok.room; have := h.ok.cap
    rcases (show i = 0 ∨ i = 1 by omega) with rfl | rfl <;> omega
  have e1 : 2 + 2 * i + 1 = 3 + 2 * i := by omega
  have hkl := keepN_le k ((A.x i).length - A.safe i)
  have HK : Hid (min (max k 0) ((A.x i).length - A.safe i : Int) = keepN k ((A.x i).length - A.safe i)) := by
    have := keepN_eq k ((A.x i).length - A.safe i)
    have e : (((A.x i).length - A.safe i : Nat) : Int) = (A.x i).length - A.safe i := by omega
    rw [e] at this
    exact this
  have HD := hide h
  unfold AD.crashSeg
  generalize keepN k ((A.x i).length - A.safe i) = t at *
  clear h hv
  have hwr : IntKind.i64.wrap ((A.safe i : Int) + t) = (A.safe i : Int) + t := by rw [IntKind.wrap_i64]; omega
  go_enter Try.func44, Try.ntmps44
  go_wp2
  go_quiet (fail)
  go_wp2
  go_region_with (first | (go_at_call 62; refine (between_any _ _ _).mono ?_; rintro e w' ⟨rfl, rfl⟩; rw [unhide HK]) | (go_at_call 61; refine (cut_any ((unhide HD).drewN _) i hi _ (A.safe i + t) (by first | omega | (rw [hwr]; omega)) (by omega)).mono ?_; rintro e w' ⟨rfl, hN⟩))
  all_goals
    obtain ⟨D1, v1, hD1, hS1⟩ := hN
    go_wp2_with (go_at_call 63; refine (segSync_any hD1 i hi).mono ?_; rintro e w2 ⟨rfl, rfl⟩)
    go_end0
    have h2 := hD1.setSafe i hi (A.safe i + t) (by simp only [upd_same, List.length_take]; omega)
    simp only [upd_upd] at h2
    have e2 : (((upd A.x i ((A.x i).take (A.safe i + t))) i).length : Int) = ((A.safe i + t : Nat) : Int) := by simp only [upd_same, List.length_take]; omega
    refine ⟨rfl, D1, v1, ?_, ?_⟩
    · simp only [e2]; exact h2
    · exact (((Step.refl D w).drewN _).trans hS1).setCell (p := ⟨p, 3 + 2 * i, none⟩) hD1.own _
end
end Go.Proofs.Ytoabpjdpdcpdlaa
