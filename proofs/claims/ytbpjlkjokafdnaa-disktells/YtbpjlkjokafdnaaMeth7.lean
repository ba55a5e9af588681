/- What Head, Truncate, Write and SyncHead do. No statement of the seat is proved here. -/
import Derived.Test.YtbpjlkjokafdnaaAwake
namespace Go.Proofs.Ytbpjlkjokafdnaa
open Go.RowKit

set_option maxHeartbeats 400000 in
theorem isSlot_yes (a : Int) (w : World) (h0 : 0 ≤ a) (h2 : a < 2) : Calls Try.prog 42 #[.int .i64 a] w fun e w' => e = .returned (.bool true) ∧ w' = w := by
  go_enter Try.func42, Try.ntmps42
  go_wp2
  go_ret
  exact ⟨by simp, rfl⟩

set_option maxHeartbeats 400000 in
theorem isSlot_no (a : Int) (w : World) (h : a < 0 ∨ 2 ≤ a) : Calls Try.prog 42 #[.int .i64 a] w fun e w' => e = .returned (.bool false) ∧ w' = w := by
  rcases h with h | h
  · go_enter Try.func42, Try.ntmps42
    go_wp2
    go_ret
    exact ⟨rfl, rfl⟩
  · have h0 : 0 ≤ a := by omega
    go_enter Try.func42, Try.ntmps42
    go_wp2
    go_ret
    exact ⟨by simp [h], rfl⟩

section
variable {w : World} {p : Nat} {D : Nat → Prop} {v : Nat → Value} {A : AD}

set_option maxHeartbeats 400000 in
theorem head_ok (h : DiskIs w p D v A) (hd : A.dead = false) (i : Nat) (hi : i < 2) : Calls Try.prog 17 #[.pointer (some ⟨p, 0, none⟩), .int .i64 i] w fun e w' => ∃ r, e = .returned r ∧ Fresh w w' r (A.sh i) := by
  have hl := h.ok.sh i hi
  have hr := h.slh i hi
  have hb : Bytes w (.slice (some ⟨p, 38 + 64 * i, none⟩) 32 32) (A.sh i) := .inr ⟨⟨p, 38 + 64 * i, none⟩, 32, by rw [hl], by omega, by unfold maxLen; omega, fun j x hx => by rw [Addr.add_mid]; exact hr j x hx⟩
  have HD := hide h
  have HB := hide hb
  have hi0 : (0 : Int) ≤ (i : Int) := by omega
  have hi2 : (i : Int) < 2 := by omega
  have e1 : 6 + i * 64 = 6 + 64 * i := by omega
  have e2 : 6 + 64 * i + 32 = 38 + 64 * i := by omega
  have hl' : (A.sh i).length ≤ 1048576 := by omega
  have HL := hide hl'
  clear h hb hr hl hl'
  go_enter Try.func17, Try.ntmps17
  go_wp2_with (first
    | (go_at_call 37; refine (fault_alive (unhide HD) hd).mono ?_; rintro e w' ⟨rfl, rfl⟩)
    | (go_at_call 42; refine (isSlot_yes _ _ (by omega) (by omega)).mono ?_; rintro e w' ⟨rfl, rfl⟩)
    | (go_at_call 41; refine (clone_any _ (A.sh i) _ (unhide HB) (unhide HL)).mono ?_; rintro e w' ⟨r, rfl, hF⟩))
  go_ret
  exact ⟨r, rfl, hF⟩

set_option maxHeartbeats 400000 in
theorem head_none (h : DiskIs w p D v A) (s : Int) (hs : A.dead = true ∨ s < 0 ∨ 2 ≤ s) : Calls Try.prog 17 #[.pointer (some ⟨p, 0, none⟩), .int .i64 s] w fun e w' => e = .returned (.slice none 0 0) ∧ w' = w := by
  have HD := hide h
  clear h
  cases hd : A.dead
  · have hs' : s < 0 ∨ 2 ≤ s := by simpa [hd] using hs
    have HS := hide hs'
    clear hs hs'
    go_enter Try.func17, Try.ntmps17
    go_wp2_with (first
      | (go_at_call 37; refine (fault_alive (unhide HD) hd).mono ?_; rintro e w' ⟨rfl, rfl⟩)
      | (go_at_call 42; refine (isSlot_no _ _ (unhide HS)).mono ?_; rintro e w' ⟨rfl, rfl⟩))
    go_ret
    exact ⟨rfl, rfl⟩
  · clear hs
    go_enter Try.func17, Try.ntmps17
    go_wp2_with (go_at_call 37; refine (fault_dead (unhide HD) hd).mono ?_; rintro e w' ⟨rfl, rfl⟩)
    go_ret
    exact ⟨rfl, rfl⟩

/-- Cut to n bytes. -/
def AD.cut (A : AD) (i n : Nat) : AD := { A with x := upd A.x i ((A.x i).take n), safe := upd A.safe i (min (A.safe i) n) }

set_option maxHeartbeats 400000 in
theorem truncLit_any (h : DiskIs w p D v A) (i : Nat) (hi : i < 2) (n : Nat) (hn : n ≤ (A.x i).length) (b1 b2 b3 : Nat) (c1 : w.cell? ⟨b1, 0, none⟩ = some (.pointer (some ⟨p, 0, none⟩))) (c2 : w.cell? ⟨b2, 0, none⟩ = some (.int .i64 i)) (c3 : w.cell? ⟨b3, 0, none⟩ = some (.int .i64 n)) (n1 : ¬ D b1) (n2 : ¬ D b2) (n3 : ¬ D b3) :
    Calls Try.prog 52 #[.pointer (some ⟨b1, 0, none⟩), .pointer (some ⟨b2, 0, none⟩), .pointer (some ⟨b3, 0, none⟩)] w fun e w' => e = .returned (.tuple #[]) ∧ Now D p (A.cut i n) w w' := by
  have HD := hide h
  clear h
  have hi0 : (0 : Int) ≤ (i : Int) := by omega
  have hi2 : (i : Int) < 2 := by omega
  have e1 : 2 + i * 2 = 2 + 2 * i := by omega
  go_enter Try.func52, Try.ntmps52
  go_wp2
  go_region_held3 (fun w' => w'.cell? ⟨b1, 0, none⟩ = some (.pointer (some ⟨p, 0, none⟩)) ∧ w'.cell? ⟨b2, 0, none⟩ = some (.int .i64 i) ∧ w'.cell? ⟨b3, 0, none⟩ = some (.int .i64 n)) (go_keep)
    (first
      | (go_at_call 53; refine (cut_any ((unhide HD).drewN _) i hi _ n rfl hn).mono ?_; rintro e w' ⟨rfl, D3, v3, hD3, hS3⟩; have q1 := hS3.cell (p := ⟨b1, 0, none⟩) c1 n1; have q2 := hS3.cell (p := ⟨b2, 0, none⟩) c2 n2; have q3 := hS3.cell (p := ⟨b3, 0, none⟩) c3 n3))
  go_wp2
  go_end0
  exact ⟨rfl, D3, v3, hD3, ((Step.refl D w).drewN _).trans hS3⟩

theorem entersTrunc (args : Array Value) (w : World) : (callFunc 52 args).run Try.prog w = .ok (.enter 52 args) w := enters_fn Try.func52 (by kernel_rfl) rfl args w

theorem trunc_change (h : DiskIs w p D v A) (hc : A.calls ≠ 0) (i : Nat) (hi : i < 2) (n : Nat) (hn : n ≤ (A.x i).length) (b1 b2 b3 : Nat) (c1 : w.cell? ⟨b1, 0, none⟩ = some (.pointer (some ⟨p, 0, none⟩))) (c2 : w.cell? ⟨b2, 0, none⟩ = some (.int .i64 i)) (c3 : w.cell? ⟨b3, 0, none⟩ = some (.int .i64 n)) (n1 : ¬ D b1) (n2 : ¬ D b2) (n3 : ¬ D b3) :
    Calls Try.prog 43 #[.pointer (some ⟨p, 0, none⟩), .func (.func 52) #[] #[.pointer (some ⟨b1, 0, none⟩), .pointer (some ⟨b2, 0, none⟩), .pointer (some ⟨b3, 0, none⟩)]] w fun e w' => e = .returned (.int .i64 0) ∧ Now D p (A.tick.cut i n) w w' :=
  change_do h hc _ _ (entersTrunc _) (Now D p (A.tick.cut i n) w) (fun _ h1 s1 =>
    (truncLit_any h1 i hi n hn b1 b2 b3 (s1.cell c1 n1) (s1.cell c2 n2) (s1.cell c3 n3) n1 n2 n3).mono fun _ _ ⟨he, hN⟩ => ⟨he, Now.after s1 hN⟩)

set_option maxHeartbeats 400000 in
theorem truncate_ok (h : DiskIs w p D v A) (hd : A.dead = false) (hc : A.calls ≠ 0) (i : Nat) (hi : i < 2) (n : Nat) (hn : n ≤ (A.x i).length) : Calls Try.prog 25 #[.pointer (some ⟨p, 0, none⟩), .int .i64 i, .int .i64 n] w fun e w' => e = .returned (.int .i64 0) ∧ Now D p (A.tick.cut i n) w w' := by
  obtain ⟨a, c, hv, hle⟩ := h.slice i hi
  have hdat := h.dat i hi
  rw [hv] at hdat
  have hpl := h.lt p h.own
  have HD := hide h
  have HN := hide hn
  have hi0 : (0 : Int) ≤ (i : Int) := by omega
  have hi2 : (i : Int) < 2 := by omega
  have e1 : 2 + i * 2 = 2 + 2 * i := by omega
  obtain ⟨x1, x2, x3⟩ := three_boxes w (.pointer (some ⟨p, 0, none⟩)) (.int .i64 i) (.int .i64 n) 23 3 3
  have hdat' : (((w.alloc (.cells #[.pointer (some ⟨p, 0, none⟩)] 23)).alloc (.cells #[.int .i64 i] 3)).alloc (.cells #[.int .i64 n] 3)).cell? ⟨p, 2 + 2 * i, none⟩ = some (.slice a (A.x i).length c) := by
    have := (((h.alloc (.cells #[.pointer (some ⟨p, 0, none⟩)] 23)).alloc (.cells #[.int .i64 i] 3)).alloc (.cells #[.int .i64 n] 3)).dat i hi
    rw [hv] at this; exact this
  have g1 : decide ((n : Int) < 0) = false := by simp
  have g2 : (n : Int) ≤ ((A.x i).length : Int) := by omega
  have hmk := makes
  clear h hv hle hn hdat
  go_enter Try.func25, Try.ntmps25
  go_wp2_with (first
    | (go_at_call 37; refine (fault_alive ((((unhide HD).alloc _).alloc _).alloc _) hd).mono ?_; rintro e w' ⟨rfl, rfl⟩))
  go_quiet ((go_at_call 40; exact Calls.quiet_of_same (isSegment_yes _ _ (by omega) (by omega))))
  go_wp2_with (first
    | (go_at_call 43; refine (trunc_change (((((unhide HD).alloc _).alloc _).alloc _).drewN _) hc i hi n (unhide HN) w.heap.size (w.heap.size + 1) (w.heap.size + 1 + 1) (three_boxes w _ _ _ _ _ _).1 (three_boxes w _ _ _ _ _ _).2.1 (three_boxes w _ _ _ _ _ _).2.2 ((unhide HD).fresh _ (by omega)) ((unhide HD).fresh _ (by omega)) ((unhide HD).fresh _ (by omega))).mono ?_; rintro e w' ⟨rfl, hN⟩))
  go_ret
  exact ⟨rfl, Now.after (((((Step.refl D w).alloc _).alloc _).alloc _).drewN _) hN⟩

set_option maxHeartbeats 400000 in
theorem truncate_kill (h : DiskIs w p D v A) (hd : A.dead = false) (hc : A.calls = 0) (i : Nat) (hi : i < 2) (n : Nat) (hn : n ≤ (A.x i).length) : Calls Try.prog 25 #[.pointer (some ⟨p, 0, none⟩), .int .i64 i, .int .i64 n] w fun e w' => e = .returned (.int .i64 3) ∧ Now D p { A with dead := true } w w' := by
  obtain ⟨a, c, hv, hle⟩ := h.slice i hi
  have HD := hide h
  have hi0 : (0 : Int) ≤ (i : Int) := by omega
  have hi2 : (i : Int) < 2 := by omega
  have e1 : 2 + i * 2 = 2 + 2 * i := by omega
  obtain ⟨x1, x2, x3⟩ := three_boxes w (.pointer (some ⟨p, 0, none⟩)) (.int .i64 i) (.int .i64 n) 23 3 3
  have hdat' : (((w.alloc (.cells #[.pointer (some ⟨p, 0, none⟩)] 23)).alloc (.cells #[.int .i64 i] 3)).alloc (.cells #[.int .i64 n] 3)).cell? ⟨p, 2 + 2 * i, none⟩ = some (.slice a (A.x i).length c) := by
    have := (((h.alloc (.cells #[.pointer (some ⟨p, 0, none⟩)] 23)).alloc (.cells #[.int .i64 i] 3)).alloc (.cells #[.int .i64 n] 3)).dat i hi
    rw [hv] at this; exact this
  have g1 : decide ((n : Int) < 0) = false := by simp
  have g2 : (n : Int) ≤ ((A.x i).length : Int) := by omega
  have HC := hide hc
  have hmk := makes
  clear h hv hle hn hc
  go_enter Try.func25, Try.ntmps25
  go_wp2_with (first
    | (go_at_call 37; refine (fault_alive ((((unhide HD).alloc _).alloc _).alloc _) hd).mono ?_; rintro e w' ⟨rfl, rfl⟩))
  go_quiet ((go_at_call 40; exact Calls.quiet_of_same (isSegment_yes _ _ (by omega) (by omega))))
  go_wp2_with (first
    | (go_at_call 43; refine (change_kill (((((unhide HD).alloc _).alloc _).alloc _).drewN _) (unhide HC) _).mono ?_; rintro e w' ⟨rfl, hD2, hS2⟩))
  go_ret
  exact ⟨rfl, D, v, hD2, (((((Step.refl D w).alloc _).alloc _).alloc _).drewN _).trans hS2⟩

/-- A segment that is none, or too many bytes, or fewer than none. -/
def badCut (A : AD) (s n : Int) : Prop := (s < 0 ∨ 2 ≤ s) ∨ (∃ i : Nat, i < 2 ∧ s = i ∧ (n < 0 ∨ ((A.x i).length : Int) < n))

set_option maxHeartbeats 400000 in
theorem truncate_arg (h : DiskIs w p D v A) (hd : A.dead = false) (s n : Int) (hb : badCut A s n) : Calls Try.prog 25 #[.pointer (some ⟨p, 0, none⟩), .int .i64 s, .int .i64 n] w fun e w' => e = .returned (.int .i64 2) ∧ Now D p A w w' := by
  obtain ⟨x1, x2, x3⟩ := three_boxes w (.pointer (some ⟨p, 0, none⟩)) (.int .i64 s) (.int .i64 n) 23 3 3
  have HD := hide h
  rcases hb with hs | ⟨i, hi, rfl, hn | hn⟩
  · have HS := hide hs
    clear h hs
    go_enter Try.func25, Try.ntmps25
    go_wp2_with (first
      | (go_at_call 37; refine (fault_alive ((((unhide HD).alloc _).alloc _).alloc _) hd).mono ?_; rintro e w' ⟨rfl, rfl⟩))
    go_quiet ((go_at_call 40; exact Calls.quiet_of_same (isSegment_no _ _ (unhide HS))))
    go_wp2
    go_ret
    exact ⟨rfl, D, v, (((((unhide HD).alloc _).alloc _).alloc _).drewN _), (((((Step.refl D w).alloc _).alloc _).alloc _).drewN _)⟩
  · have g1 : decide (n < 0) = true := by simpa using hn
    clear h
    go_enter Try.func25, Try.ntmps25
    go_wp2_with (first
      | (go_at_call 37; refine (fault_alive ((((unhide HD).alloc _).alloc _).alloc _) hd).mono ?_; rintro e w' ⟨rfl, rfl⟩))
    go_quiet ((go_at_call 40; exact Calls.quiet_of_same (isSegment_yes _ _ (by omega) (by omega))))
    go_wp2
    go_ret
    exact ⟨rfl, D, v, (((((unhide HD).alloc _).alloc _).alloc _).drewN _), (((((Step.refl D w).alloc _).alloc _).alloc _).drewN _)⟩
  · obtain ⟨a, c, hv, hle⟩ := h.slice i hi
    have hi0 : (0 : Int) ≤ (i : Int) := by omega
    have hi2 : (i : Int) < 2 := by omega
    have e1 : 2 + i * 2 = 2 + 2 * i := by omega
    have hdat' : (((w.alloc (.cells #[.pointer (some ⟨p, 0, none⟩)] 23)).alloc (.cells #[.int .i64 i] 3)).alloc (.cells #[.int .i64 n] 3)).cell? ⟨p, 2 + 2 * i, none⟩ = some (.slice a (A.x i).length c) := by
      have := (((h.alloc (.cells #[.pointer (some ⟨p, 0, none⟩)] 23)).alloc (.cells #[.int .i64 i] 3)).alloc (.cells #[.int .i64 n] 3)).dat i hi
      rw [hv] at this; exact this
    have g1 : decide (n < 0) = false := by simp; omega
    clear h hv hle
    go_enter Try.func25, Try.ntmps25
    go_wp2_with (first
      | (go_at_call 37; refine (fault_alive ((((unhide HD).alloc _).alloc _).alloc _) hd).mono ?_; rintro e w' ⟨rfl, rfl⟩))
    go_quiet ((go_at_call 40; exact Calls.quiet_of_same (isSegment_yes _ _ (by omega) (by omega))))
    go_wp2
    go_ret
    exact ⟨rfl, D, v, (((((unhide HD).alloc _).alloc _).alloc _).drewN _), (((((Step.refl D w).alloc _).alloc _).alloc _).drewN _)⟩

set_option maxHeartbeats 400000 in
theorem truncate_dead (h : DiskIs w p D v A) (hd : A.dead = true) (s n : Int) : Calls Try.prog 25 #[.pointer (some ⟨p, 0, none⟩), .int .i64 s, .int .i64 n] w fun e w' => e = .returned (.int .i64 3) ∧ Now D p A w w' := by
  have HD := hide h
  clear h
  go_enter Try.func25, Try.ntmps25
  go_wp2_with (go_at_call 37; refine (fault_dead ((((unhide HD).alloc _).alloc _).alloc _) hd).mono ?_; rintro e w' ⟨rfl, rfl⟩)
  go_ret
  exact ⟨rfl, D, v, (((unhide HD).alloc _).alloc _).alloc _, (((Step.refl D w).alloc _).alloc _).alloc _⟩
end
end Go.Proofs.Ytbpjlkjokafdnaa
