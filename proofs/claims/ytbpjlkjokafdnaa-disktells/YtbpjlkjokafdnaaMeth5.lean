/- What Sync and Crash do. No statement of the seat is proved here. -/
import Derived.Test.YtbpjlkjokafdnaaMeth4
namespace Go.Proofs.Ytbpjlkjokafdnaa
open Go.RowKit

section
variable {w : World} {p : Nat} {D : Nat → Prop} {v : Nat → Value} {A : AD}

/-- All of segment i is safe. -/
def AD.synced (A : AD) (i : Nat) : AD := { A with safe := upd A.safe i (A.x i).length }

theorem segSync_now (h : DiskIs w p D v A) (i : Nat) (hi : i < 2) : Calls Try.prog 48 #[.pointer (some ⟨p, 2 + 2 * i, none⟩)] w fun e w' => e = .returned (.tuple #[]) ∧ DiskIs w' p D v (A.synced i) ∧ Step D D w w' :=
  (segSync_any h i hi).mono fun _ _ ⟨he, hw⟩ => ⟨he, hw ▸ h.setSafe i hi _ (Nat.le_refl _), hw ▸ (Step.refl D w).setCell (p := ⟨p, 3 + 2 * i, none⟩) h.own _⟩

set_option maxHeartbeats 400000 in
theorem syncLit_any (h : DiskIs w p D v A) (i : Nat) (hi : i < 2) (b1 b2 : Nat) (c1 : w.cell? ⟨b1, 0, none⟩ = some (.pointer (some ⟨p, 0, none⟩))) (c2 : w.cell? ⟨b2, 0, none⟩ = some (.int .i64 i)) (n1 : ¬ D b1) (n2 : ¬ D b2) :
    Calls Try.prog 47 #[.pointer (some ⟨b1, 0, none⟩), .pointer (some ⟨b2, 0, none⟩)] w fun e w' => e = .returned (.tuple #[]) ∧ Now D p (A.synced i) w w' := by
  have HD := hide h
  clear h
  have hi0 : (0 : Int) ≤ (i : Int) := by omega
  have hi2 : (i : Int) < 2 := by omega
  have e1 : 2 + i * 2 = 2 + 2 * i := by omega
  go_enter Try.func47, Try.ntmps47
  go_wp2
  go_region_held3 (fun w' => w'.cell? ⟨b1, 0, none⟩ = some (.pointer (some ⟨p, 0, none⟩)) ∧ w'.cell? ⟨b2, 0, none⟩ = some (.int .i64 i)) (go_keep)
    (first
      | (go_at_call 48; refine (segSync_now ((unhide HD).drewN _) i hi).mono ?_; rintro e w' ⟨rfl, hD3, hS3⟩; have q1 := hS3.cell (p := ⟨b1, 0, none⟩) c1 n1; have q2 := hS3.cell (p := ⟨b2, 0, none⟩) c2 n2))
  go_wp2
  go_end0
  exact ⟨rfl, D, v, hD3, ((Step.refl D w).drewN _).trans hS3⟩

theorem entersSync (args : Array Value) (w : World) : (callFunc 47 args).run Try.prog w = .ok (.enter 47 args) w := enters_fn Try.func47 (by kernel_rfl) rfl args w

theorem sync_change (h : DiskIs w p D v A) (hc : A.calls ≠ 0) (i : Nat) (hi : i < 2) (b1 b2 : Nat) (c1 : w.cell? ⟨b1, 0, none⟩ = some (.pointer (some ⟨p, 0, none⟩))) (c2 : w.cell? ⟨b2, 0, none⟩ = some (.int .i64 i)) (n1 : ¬ D b1) (n2 : ¬ D b2) :
    Calls Try.prog 43 #[.pointer (some ⟨p, 0, none⟩), .func (.func 47) #[] #[.pointer (some ⟨b1, 0, none⟩), .pointer (some ⟨b2, 0, none⟩)]] w fun e w' => e = .returned (.int .i64 0) ∧ Now D p (A.tick.synced i) w w' :=
  change_do h hc _ _ (entersSync _) (Now D p (A.tick.synced i) w) (fun _ h1 s1 =>
    (syncLit_any h1 i hi b1 b2 (s1.cell c1 n1) (s1.cell c2 n2) n1 n2).mono fun _ _ ⟨he, hN⟩ => ⟨he, Now.after s1 hN⟩)

theorem two_boxes0 (w : World) (x y : Value) (t s : TypeId) : ((w.alloc (.cells #[x] t)).alloc (.cells #[y] s)).cell? ⟨w.heap.size, 0, none⟩ = some x ∧ ((w.alloc (.cells #[x] t)).alloc (.cells #[y] s)).cell? ⟨w.heap.size + 1, 0, none⟩ = some y := two_boxes w x y t s 0

set_option maxHeartbeats 400000 in
theorem sync_ok (h : DiskIs w p D v A) (hd : A.dead = false) (hc : A.calls ≠ 0) (i : Nat) (hi : i < 2) : Calls Try.prog 22 #[.pointer (some ⟨p, 0, none⟩), .int .i64 i] w fun e w' => e = .returned (.int .i64 0) ∧ Now D p (A.tick.synced i) w w' := by
  have HD := hide h
  clear h
  have hmk := makes
  go_enter Try.func22, Try.ntmps22
  go_wp2_with (first
    | (go_at_call 37; refine (fault_alive (((unhide HD).alloc _).alloc _) hd).mono ?_; rintro e w' ⟨rfl, rfl⟩)
    | (go_at_call 40; refine (isSegment_yes _ _ (by omega) (by omega)).mono ?_; rintro e w' ⟨rfl, rfl⟩)
    | (go_at_call 43; refine (sync_change (((unhide HD).alloc _).alloc _) hc i hi w.heap.size (w.heap.size + 1) (two_boxes0 w _ _ _ _).1 (two_boxes0 w _ _ _ _).2 ((unhide HD).fresh _ (by omega)) ((unhide HD).fresh _ (by omega))).mono ?_; rintro e w' ⟨rfl, hN⟩))
  go_ret
  exact ⟨rfl, Now.after (((Step.refl D w).alloc _).alloc _) hN⟩

set_option maxHeartbeats 400000 in
theorem sync_kill (h : DiskIs w p D v A) (hd : A.dead = false) (hc : A.calls = 0) (i : Nat) (hi : i < 2) : Calls Try.prog 22 #[.pointer (some ⟨p, 0, none⟩), .int .i64 i] w fun e w' => e = .returned (.int .i64 3) ∧ Now D p { A with dead := true } w w' := by
  have HD := hide h
  clear h
  have HC := hide hc
  clear hc
  have hmk := makes
  go_enter Try.func22, Try.ntmps22
  go_wp2_with (first
    | (go_at_call 37; refine (fault_alive (((unhide HD).alloc _).alloc _) hd).mono ?_; rintro e w' ⟨rfl, rfl⟩)
    | (go_at_call 40; refine (isSegment_yes _ _ (by omega) (by omega)).mono ?_; rintro e w' ⟨rfl, rfl⟩)
    | (go_at_call 43; refine (change_kill (((unhide HD).alloc _).alloc _) (unhide HC) _).mono ?_; rintro e w' ⟨rfl, hD2, hS2⟩))
  go_ret
  exact ⟨rfl, D, v, hD2, (((Step.refl D w).alloc _).alloc _).trans hS2⟩

set_option maxHeartbeats 400000 in
theorem sync_arg (h : DiskIs w p D v A) (hd : A.dead = false) (s : Int) (hs : s < 0 ∨ 2 ≤ s) : Calls Try.prog 22 #[.pointer (some ⟨p, 0, none⟩), .int .i64 s] w fun e w' => e = .returned (.int .i64 2) ∧ Now D p A w w' := by
  have HD := hide h
  clear h
  have HS := hide hs
  clear hs
  go_enter Try.func22, Try.ntmps22
  go_wp2_with (first
    | (go_at_call 37; refine (fault_alive (((unhide HD).alloc _).alloc _) hd).mono ?_; rintro e w' ⟨rfl, rfl⟩)
    | (go_at_call 40; refine (isSegment_no _ _ (unhide HS)).mono ?_; rintro e w' ⟨rfl, rfl⟩))
  go_ret
  exact ⟨rfl, D, v, ((unhide HD).alloc _).alloc _, ((Step.refl D w).alloc _).alloc _⟩

set_option maxHeartbeats 400000 in
theorem sync_dead (h : DiskIs w p D v A) (hd : A.dead = true) (s : Int) : Calls Try.prog 22 #[.pointer (some ⟨p, 0, none⟩), .int .i64 s] w fun e w' => e = .returned (.int .i64 3) ∧ Now D p A w w' := by
  have HD := hide h
  clear h
  go_enter Try.func22, Try.ntmps22
  go_wp2_with (go_at_call 37; refine (fault_dead (((unhide HD).alloc _).alloc _) hd).mono ?_; rintro e w' ⟨rfl, rfl⟩)
  go_ret
  exact ⟨rfl, D, v, ((unhide HD).alloc _).alloc _, ((Step.refl D w).alloc _).alloc _⟩

/-- Behind a crash. -/
def AD.crashed (A : AD) (k : Nat → Int) : AD := { ((((A.crashSeg 0 (k 0)).crashSeg 1 (k 1)).crashSlot 0 (k 2)).crashSlot 1 (k 3)) with calls := -1, part := 0, dead := false }
end
end Go.Proofs.Ytbpjlkjokafdnaa
