/- What Head, Truncate, Write and SyncHead do. No statement of the seat is proved here. -/
import Derived.Test.YtoabpjdpdcpdlaaAwake
namespace Go.Proofs.Ytoabpjdpdcpdlaa
open Go.RowKit

set_option maxHeartbeats 400000 in
theorem isSlot_yes (a : Int) (w : World) (h0 : 0 ≤ a) (h2 : a < 2) : Calls Try.prog 52 #[.int .i64 a] w fun e w' => e = .returned (.bool true) ∧ w' = w := by
  go_enter Try.func52, Try.ntmps52
  go_wp2
  go_ret
  exact ⟨by simp, rfl⟩

set_option maxHeartbeats 400000 in
theorem isSlot_no (a : Int) (w : World) (h : a < 0 ∨ 2 ≤ a) : Calls Try.prog 52 #[.int .i64 a] w fun e w' => e = .returned (.bool false) ∧ w' = w := by
  rcases h with h | h
  · go_enter Try.func52, Try.ntmps52
    go_wp2
    go_ret
    exact ⟨rfl, rfl⟩
  · have h0 : 0 ≤ a := by omega
    go_enter Try.func52, Try.ntmps52
    go_wp2
    go_ret
    exact ⟨by simp [h], rfl⟩

section
variable {w : World} {p : Nat} {D : Nat → Prop} {v : Nat → Value} {A : AD}

set_option maxHeartbeats 400000 in
theorem head_ok (h : DiskIs w p D v A) (hd : A.dead = false) (i : Nat) (hi : i < 2) : Calls Try.prog 30 #[.pointer (some ⟨p, 0, none⟩), .int .i64 i] w fun e w' => ∃ r, e = .returned r ∧ Fresh w w' r (A.sh i) := by
  have hl := h.ok.sh i hi
  have hr := h.slh i hi
  have hb : Bytes w (.slice (some ⟨p, 38 + 64 * i, none⟩) 32 32) (A.sh i) := .inr ⟨⟨p, 38 + 64 * i, none⟩, 32, by rw [hl], by omega, by unfold maxLen; omega, fun j x hx => by rw [Addr.add_mid]; exact hr j x hx⟩
  have HD := hide h
  have HB := hide hb
  have hi0 : (0 : Int) ≤ (i : Int) := by omega
  have hi2 : (i : Int) < 2 := by omega
  have e1 : 6 + i * 64 = 6 + 64 * i := by omega
  have e2 : 6 + 64 * i + 32 = 38 + 64 * i := by omega
  have hl' : (A.sh i).length ≤ 1048576 := by omega
  have HL := hide hl'
  clear h hb hr hl hl'
  go_enter Try.func30, Try.ntmps30
  go_wp2_with (first
    | (go_at_call 42; refine (fault_alive (unhide HD) hd).mono ?_; rintro e w' ⟨rfl, rfl⟩)
    | (go_at_call 52; refine (isSlot_yes _ _ (by omega) (by omega)).mono ?_; rintro e w' ⟨rfl, rfl⟩)
    | (go_at_call 53; refine (clone_any _ (A.sh i) _ (unhide HB) (unhide HL)).mono ?_; rintro e w' ⟨r, rfl, hF⟩))
  go_ret
  exact ⟨r, rfl, hF⟩

set_option maxHeartbeats 400000 in
theorem head_none (h : DiskIs w p D v A) (s : Int) (hs : A.dead = true ∨ s < 0 ∨ 2 ≤ s) : Calls Try.prog 30 #[.pointer (some ⟨p, 0, none⟩), .int .i64 s] w fun e w' => e = .returned (.slice none 0 0) ∧ w' = w := by
  have HD := hide h
  clear h
  cases hd : A.dead
  · have hs' : s < 0 ∨ 2 ≤ s := by simpa [hd] using hs
    have HS := hide hs'
    clear hs hs'
    go_enter Try.func30, Try.ntmps30
    go_wp2_with (first
      | (go_at_call 42; refine (fault_alive (unhide HD) hd).mono ?_; rintro e w' ⟨rfl, rfl⟩)
      | (go_at_call 52; refine (isSlot_no _ _ (unhide HS)).mono ?_; rintro e w' ⟨rfl, rfl⟩))
    go_ret
    exact ⟨rfl, rfl⟩
  · clear hs
    go_enter Try.func30, Try.ntmps30
    go_wp2_with (go_at_call 42; refine (fault_dead (unhide HD) hd).mono ?_; rintro e w' ⟨rfl, rfl⟩)
    go_ret
    exact ⟨rfl, rfl⟩

/-- Cut to n bytes. -/
def AD.cut (A : AD) (i n : Nat) : AD := { A with x := upd A.x i ((A.x i).take n), safe := upd A.safe i (min (A.safe i) n) }

/-- A segment that is none, or too many bytes, or fewer than none. -/
def badCut (A : AD) (s n : Int) : Prop := (s < 0 ∨ 2 ≤ s) ∨ (∃ i : Nat, i < 2 ∧ s = i ∧ (n < 0 ∨ ((A.x i).length : Int) < n))


end
end Go.Proofs.Ytoabpjdpdcpdlaa
