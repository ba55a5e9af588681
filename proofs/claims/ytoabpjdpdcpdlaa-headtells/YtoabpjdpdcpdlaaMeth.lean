/- What the calls of package disk do to a disk that New made. No statement of the seat is proved here. -/
import Derived.Test.YtoabpjdpdcpdlaaLeaf4
import Derived.Laws.EntriesVeiled
namespace Go.Proofs.Ytoabpjdpdcpdlaa
open Go.RowKit

section
variable {w : World} {p : Nat} {D : Nat → Prop} {v : Nat → Value} {A : AD}

/-- The fuse burns by one call. -/
def AD.tick (A : AD) : AD := { A with calls := if 0 < A.calls then A.calls - 1 else A.calls }

set_option maxHeartbeats 400000 in
theorem change_kill (h : DiskIs w p D v A) (hc : A.calls = 0) (f : Value) : Calls Try.prog 54 #[.pointer (some ⟨p, 0, none⟩), f] w fun e w' => e = .returned (.int .i64 3) ∧ DiskIs w' p D v { A with dead := true } ∧ Step D D w w' := by
  have HD := hide h
  have h1 := h.calls
  have h2 := h.dead
  have h3 := h.frz 136
  rw [hc] at h1
  clear h hc
  go_enter Try.func54, Try.ntmps54
  go_wp2
  go_ret
  exact ⟨rfl, (unhide HD).setDead true, (Step.refl D w).setCell (p := ⟨p, 136, none⟩) (unhide HD).own _⟩

theorem tick_pos (h : 0 < A.calls) : A.tick = { A with calls := A.calls - 1 } := by unfold AD.tick; rw [if_pos h]
theorem tick_neg (h : ¬ 0 < A.calls) : A.tick = A := by unfold AD.tick; rw [if_neg h]

set_option maxHeartbeats 400000 in
theorem change_do (h : DiskIs w p D v A) (hc : A.calls ≠ 0) (K : FuncId) (caps : Array Value) (hent : ∀ W, (callFunc K caps).run Try.prog W = .ok (.enter K caps) W) (R : World → Prop)
    (hdo : ∀ w1, DiskIs w1 p D v A.tick → Step D D w w1 → Calls Try.prog K caps w1 fun e w' => e = .returned (.tuple #[]) ∧ R w') :
    Calls Try.prog 54 #[.pointer (some ⟨p, 0, none⟩), .func (.func K) #[] caps] w fun e w' => e = .returned (.int .i64 0) ∧ R w' := by
  have h1 := h.calls
  have h3 := h.frz 134
  have hb := h.ok.calls
  have HD := hide h
  have HDO := hide hdo
  clear h hdo
  have hnz : (A.calls == 0) = false := by simpa using hc
  clear hc
  by_cases hp : 0 < A.calls
  · have h4 := (unhide HD).setCalls (A.calls - 1) (by omega)
    rw [← tick_pos hp] at h4
    have H4 := hide h4
    clear h4
    go_enter Try.func54, Try.ntmps54
    go_wp2_with fail
    refine (unhide HDO _ (unhide H4) ((Step.refl D w).setCell (p := ⟨p, 134, none⟩) (unhide HD).own _)).mono ?_
    rintro e w' ⟨rfl, hR⟩
    go_wp2
    go_ret
    exact ⟨rfl, hR⟩
  · have H4 : Hid (DiskIs w p D v A.tick) := by rw [tick_neg hp]; exact HD
    go_enter Try.func54, Try.ntmps54
    go_wp2_with fail
    refine (unhide HDO _ (unhide H4) (Step.refl D w)).mono ?_
    rintro e w' ⟨rfl, hR⟩
    go_wp2
    go_ret
    exact ⟨rfl, hR⟩
end
end Go.Proofs.Ytoabpjdpdcpdlaa
