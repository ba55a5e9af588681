/- What the small functions of package disk do, each by a walk over its body. No statement of the seat is proved here. -/
import Derived.Test.YtoabpjdpdcpdlaaDisk
import Derived.Deep.RegionWith
import Derived.Deep.QuietTactic
import Derived.BigQuiet
namespace Go.Proofs.Ytoabpjdpdcpdlaa
open Go.RowKit

theorem has_info (t : TypeId) (h : (Try.prog.info? t).isSome = true) : ∃ j, Try.prog.info? t = some j := Option.isSome_iff_exists.1 h
theorem infoDisk : ∃ j, Try.prog.info? 79 = some j := has_info _ (by kernel_rfl)
set_option maxHeartbeats 400000 in
theorem isSegment_yes (a : Int) (w : World) (h0 : 0 ≤ a) (h2 : a < 2) : Calls Try.prog 64 #[.int .i64 a] w fun e w' => e = .returned (.bool true) ∧ w' = w := by
  go_enter Try.func64, Try.ntmps64
  go_wp2
  go_ret
  exact ⟨by simp, rfl⟩

set_option maxHeartbeats 400000 in
theorem isSegment_no (a : Int) (w : World) (h : a < 0 ∨ 2 ≤ a) : Calls Try.prog 64 #[.int .i64 a] w fun e w' => e = .returned (.bool false) ∧ w' = w := by
  rcases h with h | h
  · go_enter Try.func64, Try.ntmps64
    go_wp2
    go_ret
    exact ⟨rfl, rfl⟩
  · have h0 : 0 ≤ a := by omega
    go_enter Try.func64, Try.ntmps64
    go_wp2
    go_ret
    exact ⟨by simp [h], rfl⟩

set_option maxHeartbeats 400000 in
theorem between_any (a b : Int) (w : World) : Calls Try.prog 62 #[.int .i64 a, .int .i64 b] w fun e w' => e = .returned (.int .i64 (min (max a 0) b)) ∧ w' = w := by
  go_enter Try.func62, Try.ntmps62
  go_wp2
  all_goals
    go_ret
    exact ⟨ret_int (by omega), rfl⟩

section
variable {w : World} {p : Nat} {D : Nat → Prop} {v : Nat → Value} {A : AD}

set_option maxHeartbeats 400000 in
theorem made_yes (h : DiskIs w p D v A) : Calls Try.prog 43 #[.pointer (some ⟨p, 0, none⟩)] w fun e w' => e = .returned (.bool true) ∧ w' = w := by
  have hs := h.self
  clear h
  obtain ⟨j, hj⟩ := infoDisk
  have he := run_eql_ptr_same (P := Try.prog) w ⟨p, 0, none⟩ Try.underlying36 hj
  clear hj
  go_enter Try.func43, Try.ntmps43
  go_wp2
  go_ret
  exact ⟨rfl, rfl⟩

set_option maxHeartbeats 400000 in
theorem fault_alive (h : DiskIs w p D v A) (hd : A.dead = false) : Calls Try.prog 42 #[.pointer (some ⟨p, 0, none⟩)] w fun e w' => e = .returned (.int .i64 0) ∧ w' = w := by
  have hc := h.dead
  rw [hd] at hc
  go_enter Try.func42, Try.ntmps42
  go_wp2_with (go_at_call 43; refine (made_yes h).mono ?_; rintro e w' ⟨rfl, rfl⟩)
  go_ret
  exact ⟨rfl, rfl⟩

set_option maxHeartbeats 400000 in
theorem fault_dead (h : DiskIs w p D v A) (hd : A.dead = true) : Calls Try.prog 42 #[.pointer (some ⟨p, 0, none⟩)] w fun e w' => e = .returned (.int .i64 3) ∧ w' = w := by
  have hc := h.dead
  rw [hd] at hc
  go_enter Try.func42, Try.ntmps42
  go_wp2_with (go_at_call 43; refine (made_yes h).mono ?_; rintro e w' ⟨rfl, rfl⟩)
  go_ret
  exact ⟨rfl, rfl⟩

set_option maxHeartbeats 400000 in
theorem room_any (h : DiskIs w p D v A) : Calls Try.prog 66 #[.pointer (some ⟨p, 0, none⟩)] w fun e w' => e = .returned (.int .i64 (A.cap - (A.x 0).length - (A.x 1).length)) ∧ w' = w := by
  have hc := h.cap
  have hd0 := h.dat 0 (by omega)
  have hd1 := h.dat 1 (by omega)
  have hv0 : ∃ a n c, v 0 = .slice a n c ∧ n = (A.x 0).length := by
    rcases (h.row 0 (by omega)).2 with ⟨hv, hn⟩ | ⟨g, cap, cur, hv, _⟩
    · exact ⟨_, _, _, hv, hn.symm⟩
    · exact ⟨_, _, _, hv, rfl⟩
  have hv1 : ∃ a n c, v 1 = .slice a n c ∧ n = (A.x 1).length := by
    rcases (h.row 1 (by omega)).2 with ⟨hv, hn⟩ | ⟨g, cap, cur, hv, _⟩
    · exact ⟨_, _, _, hv, hn.symm⟩
    · exact ⟨_, _, _, hv, rfl⟩
  obtain ⟨a0, n0, c0, hv0, hn0⟩ := hv0
  obtain ⟨a1, n1, c1, hv1, hn1⟩ := hv1
  rw [hv0] at hd0
  rw [hv1] at hd1
  have hr := h.ok.room
  have hk := h.ok.cap
  rw [← hn0, ← hn1] at hr ⊢
  clear hv0 hv1 hn0 hn1 h
  simp only [Nat.mul_zero, Nat.mul_one, Nat.add_zero] at hd0 hd1
  go_enter Try.func66, Try.ntmps66
  go_wp2
  refine wp_loop_rounds 3 ?_
  rw [rounds_succ]; go_wp2
  rw [rounds_succ]; go_wp2
  rw [rounds_succ]; go_wp2
  go_ret
  exact ⟨ret_int (by omega), rfl⟩
end
end Go.Proofs.Ytoabpjdpdcpdlaa
