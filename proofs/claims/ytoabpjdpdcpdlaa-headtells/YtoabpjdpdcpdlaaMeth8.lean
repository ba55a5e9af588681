/- What Write and SyncHead do. No statement of the seat is proved here. -/
import Derived.Test.YtoabpjdpdcpdlaaMeth7
namespace Go.Proofs.Ytoabpjdpdcpdlaa
open Go.RowKit

section
variable {w : World} {p : Nat} {D : Nat → Prop} {v : Nat → Value} {A : AD}

/-- Slot i shows bs. -/
def AD.wrote (A : AD) (i : Nat) (bs : List UInt8) : AD := { A with sh := upd A.sh i bs }
/-- What the slots show is safe. -/
def AD.syncedHead (A : AD) : AD := { A with sf := upd (upd A.sf 0 (A.sh 0)) 1 (A.sh 1) }

set_option maxHeartbeats 400000 in
theorem writeLit_any (h : DiskIs w p D v A) (i : Nat) (hi : i < 2) (u : Value) (bs : List UInt8) (hu : Bytes w u bs) (hb : bs.length = 32) (b1 b2 b3 : Nat) (c1 : w.cell? ⟨b1, 0, none⟩ = some (.pointer (some ⟨p, 0, none⟩))) (c2 : w.cell? ⟨b2, 0, none⟩ = some (.int .i64 i)) (c3 : w.cell? ⟨b3, 0, none⟩ = some u) (n1 : ¬ D b1) (n2 : ¬ D b2) (n3 : ¬ D b3) :
    Calls Try.prog 55 #[.pointer (some ⟨b1, 0, none⟩), .pointer (some ⟨b2, 0, none⟩), .pointer (some ⟨b3, 0, none⟩)] w fun e w' => e = .returned (.tuple #[]) ∧ Now D p (A.wrote i bs) w w' := by
  have HD := hide h
  have HU := hide hu
  have HB := hide hb
  clear h hu hb
  have hi0 : (0 : Int) ≤ (i : Int) := by omega
  have hi2 : (i : Int) < 2 := by omega
  have e1 : 6 + i * 64 = 6 + 64 * i := by omega
  go_enter Try.func55, Try.ntmps55
  go_wp2
  go_region_held3 (fun w' => w'.cell? ⟨b1, 0, none⟩ = some (.pointer (some ⟨p, 0, none⟩)) ∧ w'.cell? ⟨b2, 0, none⟩ = some (.int .i64 i) ∧ w'.cell? ⟨b3, 0, none⟩ = some u) (go_keep)
    (first
      | (go_at_call 56; refine (slotWrite_any ((unhide HD).drewN _) i hi _ bs (Bytes.kept (unhide HU) (fun _ _ _ => rfl)) (unhide HB)).mono ?_; rintro e w' ⟨rfl, D3, v3, hD3, hS3⟩; have q1 := hS3.cell (p := ⟨b1, 0, none⟩) c1 n1; have q2 := hS3.cell (p := ⟨b2, 0, none⟩) c2 n2; have q3 := hS3.cell (p := ⟨b3, 0, none⟩) c3 n3))
  go_wp2
  go_end0
  exact ⟨rfl, D3, v3, hD3, ((Step.refl D w).drewN _).trans hS3⟩

theorem entersWrite (args : Array Value) (w : World) : (callFunc 55 args).run Try.prog w = .ok (.enter 55 args) w := enters_fn Try.func55 (by kernel_rfl) rfl args w

theorem write_change (h : DiskIs w p D v A) (hc : A.calls ≠ 0) (i : Nat) (hi : i < 2) (u : Value) (bs : List UInt8) (hu : Bytes w u bs) (hn : bs ≠ [] → ∀ k, u.ownBlock = some k → ¬ D k) (hb : bs.length = 32) (b1 b2 b3 : Nat) (c1 : w.cell? ⟨b1, 0, none⟩ = some (.pointer (some ⟨p, 0, none⟩))) (c2 : w.cell? ⟨b2, 0, none⟩ = some (.int .i64 i)) (c3 : w.cell? ⟨b3, 0, none⟩ = some u) (n1 : ¬ D b1) (n2 : ¬ D b2) (n3 : ¬ D b3) :
    Calls Try.prog 54 #[.pointer (some ⟨p, 0, none⟩), .func (.func 55) #[] #[.pointer (some ⟨b1, 0, none⟩), .pointer (some ⟨b2, 0, none⟩), .pointer (some ⟨b3, 0, none⟩)]] w fun e w' => e = .returned (.int .i64 0) ∧ Now D p (A.tick.wrote i bs) w w' :=
  change_do h hc _ _ (entersWrite _) (Now D p (A.tick.wrote i bs) w) (fun _ h1 s1 =>
    (writeLit_any h1 i hi u bs (s1.bytes hu hn) hb b1 b2 b3 (s1.cell c1 n1) (s1.cell c2 n2) (s1.cell c3 n3) n1 n2 n3).mono fun _ _ ⟨he, hN⟩ => ⟨he, Now.after s1 hN⟩)

set_option maxHeartbeats 400000 in
theorem write_ok (h : DiskIs w p D v A) (hd : A.dead = false) (hc : A.calls ≠ 0) (i : Nat) (hi : i < 2) (a : Option Addr) (c : Nat) (bs : List UInt8) (hu : Bytes w (.slice a 32 c) bs) (hn : bs ≠ [] → ∀ k, (Value.slice a 32 c).ownBlock = some k → ¬ D k) (hb : bs.length = 32) :
    Calls Try.prog 31 #[.pointer (some ⟨p, 0, none⟩), .int .i64 i, .slice a 32 c] w fun e w' => e = .returned (.int .i64 0) ∧ Now D p (A.tick.wrote i bs) w w' := by
  have HD := hide h
  have HU := hide hu
  have HB := hide hb
  have HN := hide hn
  obtain ⟨x1, x2, x3⟩ := three_boxes w (.pointer (some ⟨p, 0, none⟩)) (.int .i64 i) (.slice a 32 c) 36 3 25
  have hmk := makes
  clear h hu hb hn
  go_enter Try.func31, Try.ntmps31
  go_wp2_with (first
    | (go_at_call 42; refine (fault_alive ((((unhide HD).alloc _).alloc _).alloc _) hd).mono ?_; rintro e w' ⟨rfl, rfl⟩)
    | (go_at_call 52; refine (isSlot_yes _ _ (by omega) (by omega)).mono ?_; rintro e w' ⟨rfl, rfl⟩)
    | (go_at_call 54; refine (write_change ((((unhide HD).alloc _).alloc _).alloc _) hc i hi (.slice a 32 c) bs ((((unhide HU).alloc _).alloc _).alloc _) (unhide HN) (unhide HB) w.heap.size (w.heap.size + 1) (w.heap.size + 1 + 1) (three_boxes w _ _ _ _ _ _).1 (three_boxes w _ _ _ _ _ _).2.1 (three_boxes w _ _ _ _ _ _).2.2 ((unhide HD).fresh _ (by omega)) ((unhide HD).fresh _ (by omega)) ((unhide HD).fresh _ (by omega))).mono ?_; rintro e w' ⟨rfl, hN⟩))
  go_ret
  exact ⟨rfl, Now.after ((((Step.refl D w).alloc _).alloc _).alloc _) hN⟩

set_option maxHeartbeats 400000 in
theorem write_kill (h : DiskIs w p D v A) (hd : A.dead = false) (hc : A.calls = 0) (i : Nat) (hi : i < 2) (a : Option Addr) (c : Nat) :
    Calls Try.prog 31 #[.pointer (some ⟨p, 0, none⟩), .int .i64 i, .slice a 32 c] w fun e w' => e = .returned (.int .i64 3) ∧ Now D p { A with dead := true } w w' := by
  have HD := hide h
  have HC := hide hc
  obtain ⟨x1, x2, x3⟩ := three_boxes w (.pointer (some ⟨p, 0, none⟩)) (.int .i64 i) (.slice a 32 c) 36 3 25
  have hmk := makes
  clear h hc
  go_enter Try.func31, Try.ntmps31
  go_wp2_with (first
    | (go_at_call 42; refine (fault_alive ((((unhide HD).alloc _).alloc _).alloc _) hd).mono ?_; rintro e w' ⟨rfl, rfl⟩)
    | (go_at_call 52; refine (isSlot_yes _ _ (by omega) (by omega)).mono ?_; rintro e w' ⟨rfl, rfl⟩)
    | (go_at_call 54; refine (change_kill ((((unhide HD).alloc _).alloc _).alloc _) (unhide HC) _).mono ?_; rintro e w' ⟨rfl, hD2, hS2⟩))
  go_ret
  exact ⟨rfl, D, v, hD2, ((((Step.refl D w).alloc _).alloc _).alloc _).trans hS2⟩

set_option maxHeartbeats 400000 in
theorem write_arg (h : DiskIs w p D v A) (hd : A.dead = false) (s : Int) (a : Option Addr) (n c : Nat) (hb : (s < 0 ∨ 2 ≤ s) ∨ (0 ≤ s ∧ s < 2 ∧ n ≠ 32)) :
    Calls Try.prog 31 #[.pointer (some ⟨p, 0, none⟩), .int .i64 s, .slice a n c] w fun e w' => e = .returned (.int .i64 2) ∧ Now D p A w w' := by
  have HD := hide h
  obtain ⟨x1, x2, x3⟩ := three_boxes w (.pointer (some ⟨p, 0, none⟩)) (.int .i64 s) (.slice a n c) 36 3 25
  clear h
  rcases hb with hs | ⟨h0, h2, hn⟩
  · have HS := hide hs
    clear hs
    go_enter Try.func31, Try.ntmps31
    go_wp2_with (first
      | (go_at_call 42; refine (fault_alive ((((unhide HD).alloc _).alloc _).alloc _) hd).mono ?_; rintro e w' ⟨rfl, rfl⟩)
      | (go_at_call 52; refine (isSlot_no _ _ (unhide HS)).mono ?_; rintro e w' ⟨rfl, rfl⟩))
    go_ret
    exact ⟨rfl, D, v, (((unhide HD).alloc _).alloc _).alloc _, (((Step.refl D w).alloc _).alloc _).alloc _⟩
  · have hne : ((n : Int) == 32) = false := by simp; omega
    have hne2 : ((n : Int) != 32) = true := by simp; omega
    clear hn
    go_enter Try.func31, Try.ntmps31
    go_wp2_with (first
      | (go_at_call 42; refine (fault_alive ((((unhide HD).alloc _).alloc _).alloc _) hd).mono ?_; rintro e w' ⟨rfl, rfl⟩)
      | (go_at_call 52; refine (isSlot_yes _ _ h0 h2).mono ?_; rintro e w' ⟨rfl, rfl⟩))
    go_ret
    exact ⟨rfl, D, v, (((unhide HD).alloc _).alloc _).alloc _, (((Step.refl D w).alloc _).alloc _).alloc _⟩

set_option maxHeartbeats 400000 in
theorem write_dead (h : DiskIs w p D v A) (hd : A.dead = true) (s : Int) (a : Option Addr) (n c : Nat) : Calls Try.prog 31 #[.pointer (some ⟨p, 0, none⟩), .int .i64 s, .slice a n c] w fun e w' => e = .returned (.int .i64 3) ∧ Now D p A w w' := by
  have HD := hide h
  clear h
  go_enter Try.func31, Try.ntmps31
  go_wp2_with (go_at_call 42; refine (fault_dead ((((unhide HD).alloc _).alloc _).alloc _) hd).mono ?_; rintro e w' ⟨rfl, rfl⟩)
  go_ret
  exact ⟨rfl, D, v, (((unhide HD).alloc _).alloc _).alloc _, (((Step.refl D w).alloc _).alloc _).alloc _⟩

theorem slotSync0 (h : DiskIs w p D v A) : Calls Try.prog 58 #[.pointer (some ⟨p, 6, none⟩)] w fun e w' => e = .returned (.tuple #[]) ∧ Now D p { A with sf := upd A.sf 0 (A.sh 0) } w w' := slotSync_any h 0 (by omega)
theorem slotSync1 (h : DiskIs w p D v A) : Calls Try.prog 58 #[.pointer (some ⟨p, 70, none⟩)] w fun e w' => e = .returned (.tuple #[]) ∧ Now D p { A with sf := upd A.sf 1 (A.sh 1) } w w' := slotSync_any h 1 (by omega)

set_option maxHeartbeats 400000 in
theorem syncHeadLit_any (h : DiskIs w p D v A) (b1 : Nat) (c1 : w.cell? ⟨b1, 0, none⟩ = some (.pointer (some ⟨p, 0, none⟩))) (n1 : ¬ D b1) :
    Calls Try.prog 57 #[.pointer (some ⟨b1, 0, none⟩)] w fun e w' => e = .returned (.tuple #[]) ∧ Now D p A.syncedHead w w' := by
  have HD := hide h
  clear h
  go_enter Try.func57, Try.ntmps57
  go_wp2
  refine wp_loop_rounds 3 ?_
  rw [rounds_succ]; go_wp2_with fail
  refine (slotSync0 (unhide HD)).mono ?_
  rintro e w1 ⟨rfl, D1, v1, hD1, hS1⟩
  have c2 := hS1.cell (p := ⟨b1, 0, none⟩) c1 n1
  have n2 : ¬ D1 b1 := hS1.notOwn (World.block_lt_of_cell? _ ⟨b1, 0, none⟩ c1) n1
  have HD1 := hide hD1
  have HS1 := hide hS1
  clear hD1 hS1 c1 HD
  go_wp2_with fail
  rw [rounds_succ]; go_wp2_with fail
  refine (slotSync1 (unhide HD1)).mono ?_
  rintro e w2 ⟨rfl, D2, v2, hD2, hS2⟩
  go_wp2_with fail
  rw [rounds_succ]; go_wp2
  go_end0
  exact ⟨rfl, D2, v2, hD2, (unhide HS1).trans hS2⟩

theorem entersSyncHead (args : Array Value) (w : World) : (callFunc 57 args).run Try.prog w = .ok (.enter 57 args) w := enters_fn Try.func57 (by kernel_rfl) rfl args w

theorem syncHead_change (h : DiskIs w p D v A) (hc : A.calls ≠ 0) (b1 : Nat) (c1 : w.cell? ⟨b1, 0, none⟩ = some (.pointer (some ⟨p, 0, none⟩))) (n1 : ¬ D b1) :
    Calls Try.prog 54 #[.pointer (some ⟨p, 0, none⟩), .func (.func 57) #[] #[.pointer (some ⟨b1, 0, none⟩)]] w fun e w' => e = .returned (.int .i64 0) ∧ Now D p A.tick.syncedHead w w' :=
  change_do h hc _ _ (entersSyncHead _) (Now D p A.tick.syncedHead w) (fun _ h1 s1 =>
    (syncHeadLit_any h1 b1 (s1.cell c1 n1) n1).mono fun _ _ ⟨he, hN⟩ => ⟨he, Now.after s1 hN⟩)

theorem one_box (w : World) (x : Value) (t : TypeId) : (w.alloc (.cells #[x] t)).cell? ⟨w.heap.size, 0, none⟩ = some x := cell_of_row _ _ 0 _ _ _ (heap_alloc_new w _)

set_option maxHeartbeats 400000 in
theorem syncHead_ok (h : DiskIs w p D v A) (hd : A.dead = false) (hc : A.calls ≠ 0) : Calls Try.prog 32 #[.pointer (some ⟨p, 0, none⟩)] w fun e w' => e = .returned (.int .i64 0) ∧ Now D p A.tick.syncedHead w w' := by
  have HD := hide h
  clear h
  have hmk := makes
  go_enter Try.func32, Try.ntmps32
  go_wp2_with (first
    | (go_at_call 42; refine (fault_alive ((unhide HD).alloc _) hd).mono ?_; rintro e w' ⟨rfl, rfl⟩)
    | (go_at_call 54; refine (syncHead_change ((unhide HD).alloc _) hc w.heap.size (one_box w _ _) ((unhide HD).fresh _ (by omega))).mono ?_; rintro e w' ⟨rfl, hN⟩))
  go_ret
  exact ⟨rfl, Now.after ((Step.refl D w).alloc _) hN⟩

set_option maxHeartbeats 400000 in
theorem syncHead_kill (h : DiskIs w p D v A) (hd : A.dead = false) (hc : A.calls = 0) : Calls Try.prog 32 #[.pointer (some ⟨p, 0, none⟩)] w fun e w' => e = .returned (.int .i64 3) ∧ Now D p { A with dead := true } w w' := by
  have HD := hide h
  have HC := hide hc
  clear h hc
  have hmk := makes
  go_enter Try.func32, Try.ntmps32
  go_wp2_with (first
    | (go_at_call 42; refine (fault_alive ((unhide HD).alloc _) hd).mono ?_; rintro e w' ⟨rfl, rfl⟩)
    | (go_at_call 54; refine (change_kill ((unhide HD).alloc _) (unhide HC) _).mono ?_; rintro e w' ⟨rfl, hD2, hS2⟩))
  go_ret
  exact ⟨rfl, D, v, hD2, ((Step.refl D w).alloc _).trans hS2⟩

set_option maxHeartbeats 400000 in
theorem syncHead_dead (h : DiskIs w p D v A) (hd : A.dead = true) : Calls Try.prog 32 #[.pointer (some ⟨p, 0, none⟩)] w fun e w' => e = .returned (.int .i64 3) ∧ Now D p A w w' := by
  have HD := hide h
  clear h
  go_enter Try.func32, Try.ntmps32
  go_wp2_with (go_at_call 42; refine (fault_dead ((unhide HD).alloc _) hd).mono ?_; rintro e w' ⟨rfl, rfl⟩)
  go_ret
  exact ⟨rfl, D, v, (unhide HD).alloc _, (Step.refl D w).alloc _⟩
end
end Go.Proofs.Ytoabpjdpdcpdlaa
