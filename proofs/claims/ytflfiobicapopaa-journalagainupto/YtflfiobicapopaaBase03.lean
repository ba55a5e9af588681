/- Meth7, Meth8, Env, Env2, HeadDisk, HeadDisk2: our own definitions and contracts; no statement of the seat is proved here. -/
import Derived.Test.YtflfiobicapopaaBase02
import Derived.Test.YtflfiobicapopaaBase01
namespace Go.Proofs.Ytflfiobicapopaa
open Go.RowKit

set_option maxHeartbeats 400000 in
theorem isSlot_yes (a : Int) (w : World) (h0 : 0 ≤ a) (h2 : a < 2) : Calls Try.prog 89 #[.int .i64 a] w fun e w' => e = .returned (.bool true) ∧ w' = w := by
  go_enter Try.func89, Try.ntmps89
  go_wp2
  go_ret
  exact ⟨by simp, rfl⟩

set_option maxHeartbeats 400000 in
theorem isSlot_no (a : Int) (w : World) (h : a < 0 ∨ 2 ≤ a) : Calls Try.prog 89 #[.int .i64 a] w fun e w' => e = .returned (.bool false) ∧ w' = w := by
  rcases h with h | h
  · go_enter Try.func89, Try.ntmps89
    go_wp2
    go_ret
    exact ⟨rfl, rfl⟩
  · have h0 : 0 ≤ a := by omega
    go_enter Try.func89, Try.ntmps89
    go_wp2
    go_ret
    exact ⟨by simp [h], rfl⟩

section
variable {w : World} {p : Nat} {D : Nat → Prop} {v : Nat → Value} {A : AD}

set_option maxHeartbeats 400000 in
theorem head_ok (h : DiskIs w p D v A) (hd : A.dead = false) (i : Nat) (hi : i < 2) : Calls Try.prog 78 #[.pointer (some ⟨p, 0, none⟩), .int .i64 i] w fun e w' => ∃ r, e = .returned r ∧ Fresh w w' r (A.sh i) := by
  have hl := h.ok.sh i hi
  have hr := h.slh i hi
  have hb : Bytes w (.slice (some ⟨p, 38 + 64 * i, none⟩) 32 32) (A.sh i) := .inr ⟨⟨p, 38 + 64 * i, none⟩, 32, by rw [hl], by omega, by unfold maxLen; omega, fun j x hx => by rw [Addr.add_mid]; exact hr j x hx⟩
  have HD := hide h
  have HB := hide hb
  have hi0 : (0 : Int) ≤ (i : Int) := by omega
  have hi2 : (i : Int) < 2 := by omega
  have e1 : 6 + i * 64 = 6 + 64 * i := by omega
  have e2 : 6 + 64 * i + 32 = 38 + 64 * i := by omega
  have hl' : (A.sh i).length ≤ 1048576 := by omega
  have HL := hide hl'
  clear h hb hr hl hl'
  go_enter Try.func78, Try.ntmps78
  go_wp2_with (first
    | (go_at_call 33; refine (fault_alive (unhide HD) hd).mono ?_; rintro e w' ⟨rfl, rfl⟩)
    | (go_at_call 89; refine (isSlot_yes _ _ (by omega) (by omega)).mono ?_; rintro e w' ⟨rfl, rfl⟩)
    | (go_at_call 63; refine (clone_any _ (A.sh i) _ (unhide HB) (unhide HL)).mono ?_; rintro e w' ⟨r, rfl, hF⟩))
  go_ret
  exact ⟨r, rfl, hF⟩

set_option maxHeartbeats 400000 in
theorem head_none (h : DiskIs w p D v A) (s : Int) (hs : A.dead = true ∨ s < 0 ∨ 2 ≤ s) : Calls Try.prog 78 #[.pointer (some ⟨p, 0, none⟩), .int .i64 s] w fun e w' => e = .returned (.slice none 0 0) ∧ w' = w := by
  have HD := hide h
  clear h
  cases hd : A.dead
  · have hs' : s < 0 ∨ 2 ≤ s := by simpa [hd] using hs
    have HS := hide hs'
    clear hs hs'
    go_enter Try.func78, Try.ntmps78
    go_wp2_with (first
      | (go_at_call 33; refine (fault_alive (unhide HD) hd).mono ?_; rintro e w' ⟨rfl, rfl⟩)
      | (go_at_call 89; refine (isSlot_no _ _ (unhide HS)).mono ?_; rintro e w' ⟨rfl, rfl⟩))
    go_ret
    exact ⟨rfl, rfl⟩
  · clear hs
    go_enter Try.func78, Try.ntmps78
    go_wp2_with (go_at_call 33; refine (fault_dead (unhide HD) hd).mono ?_; rintro e w' ⟨rfl, rfl⟩)
    go_ret
    exact ⟨rfl, rfl⟩

/-- Cut to n bytes. -/
def AD.cut (A : AD) (i n : Nat) : AD := { A with x := upd A.x i ((A.x i).take n), safe := upd A.safe i (min (A.safe i) n) }

set_option maxHeartbeats 400000 in
theorem truncLit_any (h : DiskIs w p D v A) (i : Nat) (hi : i < 2) (n : Nat) (hn : n ≤ (A.x i).length) (b1 b2 b3 : Nat) (c1 : w.cell? ⟨b1, 0, none⟩ = some (.pointer (some ⟨p, 0, none⟩))) (c2 : w.cell? ⟨b2, 0, none⟩ = some (.int .i64 i)) (c3 : w.cell? ⟨b3, 0, none⟩ = some (.int .i64 n)) (n1 : ¬ D b1) (n2 : ¬ D b2) (n3 : ¬ D b3) :
    Calls Try.prog 88 #[.pointer (some ⟨b1, 0, none⟩), .pointer (some ⟨b2, 0, none⟩), .pointer (some ⟨b3, 0, none⟩)] w fun e w' => e = .returned (.tuple #[]) ∧ Now D p (A.cut i n) w w' := by
  have HD := hide h
  clear h
  have hi0 : (0 : Int) ≤ (i : Int) := by omega
  have hi2 : (i : Int) < 2 := by omega
  have e1 : 2 + i * 2 = 2 + 2 * i := by omega
  go_enter Try.func88, Try.ntmps88
  go_wp2
  go_region_held3 (fun w' => w'.cell? ⟨b1, 0, none⟩ = some (.pointer (some ⟨p, 0, none⟩)) ∧ w'.cell? ⟨b2, 0, none⟩ = some (.int .i64 i) ∧ w'.cell? ⟨b3, 0, none⟩ = some (.int .i64 n)) (go_keep)
    (first
      | (go_at_call 76; refine (cut_any ((unhide HD).drewN _) i hi _ n rfl hn).mono ?_; rintro e w' ⟨rfl, D3, v3, hD3, hS3⟩; have q1 := hS3.cell (p := ⟨b1, 0, none⟩) c1 n1; have q2 := hS3.cell (p := ⟨b2, 0, none⟩) c2 n2; have q3 := hS3.cell (p := ⟨b3, 0, none⟩) c3 n3))
  go_wp2
  go_end0
  exact ⟨rfl, D3, v3, hD3, ((Step.refl D w).drewN _).trans hS3⟩

theorem entersTrunc (args : Array Value) (w : World) : (callFunc 88 args).run Try.prog w = .ok (.enter 88 args) w := enters_fn Try.func88 (by kernel_rfl) rfl args w

theorem trunc_change (h : DiskIs w p D v A) (hc : A.calls ≠ 0) (i : Nat) (hi : i < 2) (n : Nat) (hn : n ≤ (A.x i).length) (b1 b2 b3 : Nat) (c1 : w.cell? ⟨b1, 0, none⟩ = some (.pointer (some ⟨p, 0, none⟩))) (c2 : w.cell? ⟨b2, 0, none⟩ = some (.int .i64 i)) (c3 : w.cell? ⟨b3, 0, none⟩ = some (.int .i64 n)) (n1 : ¬ D b1) (n2 : ¬ D b2) (n3 : ¬ D b3) :
    Calls Try.prog 59 #[.pointer (some ⟨p, 0, none⟩), .func (.func 88) #[] #[.pointer (some ⟨b1, 0, none⟩), .pointer (some ⟨b2, 0, none⟩), .pointer (some ⟨b3, 0, none⟩)]] w fun e w' => e = .returned (.int .i64 0) ∧ Now D p (A.tick.cut i n) w w' :=
  change_do h hc _ _ (entersTrunc _) (Now D p (A.tick.cut i n) w) (fun _ h1 s1 =>
    (truncLit_any h1 i hi n hn b1 b2 b3 (s1.cell c1 n1) (s1.cell c2 n2) (s1.cell c3 n3) n1 n2 n3).mono fun _ _ ⟨he, hN⟩ => ⟨he, Now.after s1 hN⟩)

set_option maxHeartbeats 400000 in
theorem truncate_ok (h : DiskIs w p D v A) (hd : A.dead = false) (hc : A.calls ≠ 0) (i : Nat) (hi : i < 2) (n : Nat) (hn : n ≤ (A.x i).length) : Calls Try.prog 75 #[.pointer (some ⟨p, 0, none⟩), .int .i64 i, .int .i64 n] w fun e w' => e = .returned (.int .i64 0) ∧ Now D p (A.tick.cut i n) w w' := by
  obtain ⟨a, c, hv, hle⟩ := h.slice i hi
  have hdat := h.dat i hi
  rw [hv] at hdat
  have hpl := h.lt p h.own
  have HD := hide h
  have HN := hide hn
  have hi0 : (0 : Int) ≤ (i : Int) := by omega
  have hi2 : (i : Int) < 2 := by omega
  have e1 : 2 + i * 2 = 2 + 2 * i := by omega
  obtain ⟨x1, x2, x3⟩ := three_boxes w (.pointer (some ⟨p, 0, none⟩)) (.int .i64 i) (.int .i64 n) 29 3 3
  have hdat' : (((w.alloc (.cells #[.pointer (some ⟨p, 0, none⟩)] 29)).alloc (.cells #[.int .i64 i] 3)).alloc (.cells #[.int .i64 n] 3)).cell? ⟨p, 2 + 2 * i, none⟩ = some (.slice a (A.x i).length c) := by
    have := (((h.alloc (.cells #[.pointer (some ⟨p, 0, none⟩)] 29)).alloc (.cells #[.int .i64 i] 3)).alloc (.cells #[.int .i64 n] 3)).dat i hi
    rw [hv] at this; exact this
  have g1 : decide ((n : Int) < 0) = false := by simp
  have g2 : (n : Int) ≤ ((A.x i).length : Int) := by omega
  have hmk := makes
  clear h hv hle hn hdat
  go_enter Try.func75, Try.ntmps75
  go_wp2_with (first
    | (go_at_call 33; refine (fault_alive ((((unhide HD).alloc _).alloc _).alloc _) hd).mono ?_; rintro e w' ⟨rfl, rfl⟩))
  go_quiet ((go_at_call 57; exact Calls.quiet_of_same (isSegment_yes _ _ (by omega) (by omega))))
  go_wp2_with (first
    | (go_at_call 59; refine (trunc_change (((((unhide HD).alloc _).alloc _).alloc _).drewN _) hc i hi n (unhide HN) w.heap.size (w.heap.size + 1) (w.heap.size + 1 + 1) (three_boxes w _ _ _ _ _ _).1 (three_boxes w _ _ _ _ _ _).2.1 (three_boxes w _ _ _ _ _ _).2.2 ((unhide HD).fresh _ (by omega)) ((unhide HD).fresh _ (by omega)) ((unhide HD).fresh _ (by omega))).mono ?_; rintro e w' ⟨rfl, hN⟩))
  go_ret
  exact ⟨rfl, Now.after (((((Step.refl D w).alloc _).alloc _).alloc _).drewN _) hN⟩

set_option maxHeartbeats 400000 in
theorem truncate_kill (h : DiskIs w p D v A) (hd : A.dead = false) (hc : A.calls = 0) (i : Nat) (hi : i < 2) (n : Nat) (hn : n ≤ (A.x i).length) : Calls Try.prog 75 #[.pointer (some ⟨p, 0, none⟩), .int .i64 i, .int .i64 n] w fun e w' => e = .returned (.int .i64 3) ∧ Now D p { A with dead := true } w w' := by
  obtain ⟨a, c, hv, hle⟩ := h.slice i hi
  have HD := hide h
  have hi0 : (0 : Int) ≤ (i : Int) := by omega
  have hi2 : (i : Int) < 2 := by omega
  have e1 : 2 + i * 2 = 2 + 2 * i := by omega
  obtain ⟨x1, x2, x3⟩ := three_boxes w (.pointer (some ⟨p, 0, none⟩)) (.int .i64 i) (.int .i64 n) 29 3 3
  have hdat' : (((w.alloc (.cells #[.pointer (some ⟨p, 0, none⟩)] 29)).alloc (.cells #[.int .i64 i] 3)).alloc (.cells #[.int .i64 n] 3)).cell? ⟨p, 2 + 2 * i, none⟩ = some (.slice a (A.x i).length c) := by
    have := (((h.alloc (.cells #[.pointer (some ⟨p, 0, none⟩)] 29)).alloc (.cells #[.int .i64 i] 3)).alloc (.cells #[.int .i64 n] 3)).dat i hi
    rw [hv] at this; exact this
  have g1 : decide ((n : Int) < 0) = false := by simp
  have g2 : (n : Int) ≤ ((A.x i).length : Int) := by omega
  have HC := hide hc
  have hmk := makes
  clear h hv hle hn hc
  go_enter Try.func75, Try.ntmps75
  go_wp2_with (first
    | (go_at_call 33; refine (fault_alive ((((unhide HD).alloc _).alloc _).alloc _) hd).mono ?_; rintro e w' ⟨rfl, rfl⟩))
  go_quiet ((go_at_call 57; exact Calls.quiet_of_same (isSegment_yes _ _ (by omega) (by omega))))
  go_wp2_with (first
    | (go_at_call 59; refine (change_kill (((((unhide HD).alloc _).alloc _).alloc _).drewN _) (unhide HC) _).mono ?_; rintro e w' ⟨rfl, hD2, hS2⟩))
  go_ret
  exact ⟨rfl, D, v, hD2, (((((Step.refl D w).alloc _).alloc _).alloc _).drewN _).trans hS2⟩

/-- A segment that is none, or too many bytes, or fewer than none. -/
def badCut (A : AD) (s n : Int) : Prop := (s < 0 ∨ 2 ≤ s) ∨ (∃ i : Nat, i < 2 ∧ s = i ∧ (n < 0 ∨ ((A.x i).length : Int) < n))

set_option maxHeartbeats 400000 in
theorem truncate_arg (h : DiskIs w p D v A) (hd : A.dead = false) (s n : Int) (hb : badCut A s n) : Calls Try.prog 75 #[.pointer (some ⟨p, 0, none⟩), .int .i64 s, .int .i64 n] w fun e w' => e = .returned (.int .i64 2) ∧ Now D p A w w' := by
  obtain ⟨x1, x2, x3⟩ := three_boxes w (.pointer (some ⟨p, 0, none⟩)) (.int .i64 s) (.int .i64 n) 29 3 3
  have HD := hide h
  rcases hb with hs | ⟨i, hi, rfl, hn | hn⟩
  · have HS := hide hs
    clear h hs
    go_enter Try.func75, Try.ntmps75
    go_wp2_with (first
      | (go_at_call 33; refine (fault_alive ((((unhide HD).alloc _).alloc _).alloc _) hd).mono ?_; rintro e w' ⟨rfl, rfl⟩))
    go_quiet ((go_at_call 57; exact Calls.quiet_of_same (isSegment_no _ _ (unhide HS))))
    go_wp2
    go_ret
    exact ⟨rfl, D, v, (((((unhide HD).alloc _).alloc _).alloc _).drewN _), (((((Step.refl D w).alloc _).alloc _).alloc _).drewN _)⟩
  · have g1 : decide (n < 0) = true := by simpa using hn
    clear h
    go_enter Try.func75, Try.ntmps75
    go_wp2_with (first
      | (go_at_call 33; refine (fault_alive ((((unhide HD).alloc _).alloc _).alloc _) hd).mono ?_; rintro e w' ⟨rfl, rfl⟩))
    go_quiet ((go_at_call 57; exact Calls.quiet_of_same (isSegment_yes _ _ (by omega) (by omega))))
    go_wp2
    go_ret
    exact ⟨rfl, D, v, (((((unhide HD).alloc _).alloc _).alloc _).drewN _), (((((Step.refl D w).alloc _).alloc _).alloc _).drewN _)⟩
  · obtain ⟨a, c, hv, hle⟩ := h.slice i hi
    have hi0 : (0 : Int) ≤ (i : Int) := by omega
    have hi2 : (i : Int) < 2 := by omega
    have e1 : 2 + i * 2 = 2 + 2 * i := by omega
    have hdat' : (((w.alloc (.cells #[.pointer (some ⟨p, 0, none⟩)] 29)).alloc (.cells #[.int .i64 i] 3)).alloc (.cells #[.int .i64 n] 3)).cell? ⟨p, 2 + 2 * i, none⟩ = some (.slice a (A.x i).length c) := by
      have := (((h.alloc (.cells #[.pointer (some ⟨p, 0, none⟩)] 29)).alloc (.cells #[.int .i64 i] 3)).alloc (.cells #[.int .i64 n] 3)).dat i hi
      rw [hv] at this; exact this
    have g1 : decide (n < 0) = false := by simp; omega
    clear h hv hle
    go_enter Try.func75, Try.ntmps75
    go_wp2_with (first
      | (go_at_call 33; refine (fault_alive ((((unhide HD).alloc _).alloc _).alloc _) hd).mono ?_; rintro e w' ⟨rfl, rfl⟩))
    go_quiet ((go_at_call 57; exact Calls.quiet_of_same (isSegment_yes _ _ (by omega) (by omega))))
    go_wp2
    go_ret
    exact ⟨rfl, D, v, (((((unhide HD).alloc _).alloc _).alloc _).drewN _), (((((Step.refl D w).alloc _).alloc _).alloc _).drewN _)⟩

set_option maxHeartbeats 400000 in
theorem truncate_dead (h : DiskIs w p D v A) (hd : A.dead = true) (s n : Int) : Calls Try.prog 75 #[.pointer (some ⟨p, 0, none⟩), .int .i64 s, .int .i64 n] w fun e w' => e = .returned (.int .i64 3) ∧ Now D p A w w' := by
  have HD := hide h
  clear h
  go_enter Try.func75, Try.ntmps75
  go_wp2_with (go_at_call 33; refine (fault_dead ((((unhide HD).alloc _).alloc _).alloc _) hd).mono ?_; rintro e w' ⟨rfl, rfl⟩)
  go_ret
  exact ⟨rfl, D, v, (((unhide HD).alloc _).alloc _).alloc _, (((Step.refl D w).alloc _).alloc _).alloc _⟩
end
end Go.Proofs.Ytflfiobicapopaa

namespace Go.Proofs.Ytflfiobicapopaa
open Go.RowKit

section
variable {w : World} {p : Nat} {D : Nat → Prop} {v : Nat → Value} {A : AD}

/-- Slot i shows bs. -/
def AD.wrote (A : AD) (i : Nat) (bs : List UInt8) : AD := { A with sh := upd A.sh i bs }
/-- What the slots show is safe. -/
def AD.syncedHead (A : AD) : AD := { A with sf := upd (upd A.sf 0 (A.sh 0)) 1 (A.sh 1) }

set_option maxHeartbeats 400000 in
theorem writeLit_any (h : DiskIs w p D v A) (i : Nat) (hi : i < 2) (u : Value) (bs : List UInt8) (hu : Bytes w u bs) (hb : bs.length = 32) (b1 b2 b3 : Nat) (c1 : w.cell? ⟨b1, 0, none⟩ = some (.pointer (some ⟨p, 0, none⟩))) (c2 : w.cell? ⟨b2, 0, none⟩ = some (.int .i64 i)) (c3 : w.cell? ⟨b3, 0, none⟩ = some u) (n1 : ¬ D b1) (n2 : ¬ D b2) (n3 : ¬ D b3) :
    Calls Try.prog 97 #[.pointer (some ⟨b1, 0, none⟩), .pointer (some ⟨b2, 0, none⟩), .pointer (some ⟨b3, 0, none⟩)] w fun e w' => e = .returned (.tuple #[]) ∧ Now D p (A.wrote i bs) w w' := by
  have HD := hide h
  have HU := hide hu
  have HB := hide hb
  clear h hu hb
  have hi0 : (0 : Int) ≤ (i : Int) := by omega
  have hi2 : (i : Int) < 2 := by omega
  have e1 : 6 + i * 64 = 6 + 64 * i := by omega
  go_enter Try.func97, Try.ntmps97
  go_wp2
  go_region_held3 (fun w' => w'.cell? ⟨b1, 0, none⟩ = some (.pointer (some ⟨p, 0, none⟩)) ∧ w'.cell? ⟨b2, 0, none⟩ = some (.int .i64 i) ∧ w'.cell? ⟨b3, 0, none⟩ = some u) (go_keep)
    (first
      | (go_at_call 98; refine (slotWrite_any ((unhide HD).drewN _) i hi _ bs (Bytes.kept (unhide HU) (fun _ _ _ => rfl)) (unhide HB)).mono ?_; rintro e w' ⟨rfl, D3, v3, hD3, hS3⟩; have q1 := hS3.cell (p := ⟨b1, 0, none⟩) c1 n1; have q2 := hS3.cell (p := ⟨b2, 0, none⟩) c2 n2; have q3 := hS3.cell (p := ⟨b3, 0, none⟩) c3 n3))
  go_wp2
  go_end0
  exact ⟨rfl, D3, v3, hD3, ((Step.refl D w).drewN _).trans hS3⟩

theorem entersWrite (args : Array Value) (w : World) : (callFunc 97 args).run Try.prog w = .ok (.enter 97 args) w := enters_fn Try.func97 (by kernel_rfl) rfl args w

theorem write_change (h : DiskIs w p D v A) (hc : A.calls ≠ 0) (i : Nat) (hi : i < 2) (u : Value) (bs : List UInt8) (hu : Bytes w u bs) (hn : bs ≠ [] → ∀ k, u.ownBlock = some k → ¬ D k) (hb : bs.length = 32) (b1 b2 b3 : Nat) (c1 : w.cell? ⟨b1, 0, none⟩ = some (.pointer (some ⟨p, 0, none⟩))) (c2 : w.cell? ⟨b2, 0, none⟩ = some (.int .i64 i)) (c3 : w.cell? ⟨b3, 0, none⟩ = some u) (n1 : ¬ D b1) (n2 : ¬ D b2) (n3 : ¬ D b3) :
    Calls Try.prog 59 #[.pointer (some ⟨p, 0, none⟩), .func (.func 97) #[] #[.pointer (some ⟨b1, 0, none⟩), .pointer (some ⟨b2, 0, none⟩), .pointer (some ⟨b3, 0, none⟩)]] w fun e w' => e = .returned (.int .i64 0) ∧ Now D p (A.tick.wrote i bs) w w' :=
  change_do h hc _ _ (entersWrite _) (Now D p (A.tick.wrote i bs) w) (fun _ h1 s1 =>
    (writeLit_any h1 i hi u bs (s1.bytes hu hn) hb b1 b2 b3 (s1.cell c1 n1) (s1.cell c2 n2) (s1.cell c3 n3) n1 n2 n3).mono fun _ _ ⟨he, hN⟩ => ⟨he, Now.after s1 hN⟩)

set_option maxHeartbeats 400000 in
theorem write_ok (h : DiskIs w p D v A) (hd : A.dead = false) (hc : A.calls ≠ 0) (i : Nat) (hi : i < 2) (a : Option Addr) (c : Nat) (bs : List UInt8) (hu : Bytes w (.slice a 32 c) bs) (hn : bs ≠ [] → ∀ k, (Value.slice a 32 c).ownBlock = some k → ¬ D k) (hb : bs.length = 32) :
    Calls Try.prog 86 #[.pointer (some ⟨p, 0, none⟩), .int .i64 i, .slice a 32 c] w fun e w' => e = .returned (.int .i64 0) ∧ Now D p (A.tick.wrote i bs) w w' := by
  have HD := hide h
  have HU := hide hu
  have HB := hide hb
  have HN := hide hn
  obtain ⟨x1, x2, x3⟩ := three_boxes w (.pointer (some ⟨p, 0, none⟩)) (.int .i64 i) (.slice a 32 c) 29 3 49
  have hmk := makes
  clear h hu hb hn
  go_enter Try.func86, Try.ntmps86
  go_wp2_with (first
    | (go_at_call 33; refine (fault_alive ((((unhide HD).alloc _).alloc _).alloc _) hd).mono ?_; rintro e w' ⟨rfl, rfl⟩)
    | (go_at_call 89; refine (isSlot_yes _ _ (by omega) (by omega)).mono ?_; rintro e w' ⟨rfl, rfl⟩)
    | (go_at_call 59; refine (write_change ((((unhide HD).alloc _).alloc _).alloc _) hc i hi (.slice a 32 c) bs ((((unhide HU).alloc _).alloc _).alloc _) (unhide HN) (unhide HB) w.heap.size (w.heap.size + 1) (w.heap.size + 1 + 1) (three_boxes w _ _ _ _ _ _).1 (three_boxes w _ _ _ _ _ _).2.1 (three_boxes w _ _ _ _ _ _).2.2 ((unhide HD).fresh _ (by omega)) ((unhide HD).fresh _ (by omega)) ((unhide HD).fresh _ (by omega))).mono ?_; rintro e w' ⟨rfl, hN⟩))
  go_ret
  exact ⟨rfl, Now.after ((((Step.refl D w).alloc _).alloc _).alloc _) hN⟩

set_option maxHeartbeats 400000 in
theorem write_kill (h : DiskIs w p D v A) (hd : A.dead = false) (hc : A.calls = 0) (i : Nat) (hi : i < 2) (a : Option Addr) (c : Nat) :
    Calls Try.prog 86 #[.pointer (some ⟨p, 0, none⟩), .int .i64 i, .slice a 32 c] w fun e w' => e = .returned (.int .i64 3) ∧ Now D p { A with dead := true } w w' := by
  have HD := hide h
  have HC := hide hc
  obtain ⟨x1, x2, x3⟩ := three_boxes w (.pointer (some ⟨p, 0, none⟩)) (.int .i64 i) (.slice a 32 c) 29 3 49
  have hmk := makes
  clear h hc
  go_enter Try.func86, Try.ntmps86
  go_wp2_with (first
    | (go_at_call 33; refine (fault_alive ((((unhide HD).alloc _).alloc _).alloc _) hd).mono ?_; rintro e w' ⟨rfl, rfl⟩)
    | (go_at_call 89; refine (isSlot_yes _ _ (by omega) (by omega)).mono ?_; rintro e w' ⟨rfl, rfl⟩)
    | (go_at_call 59; refine (change_kill ((((unhide HD).alloc _).alloc _).alloc _) (unhide HC) _).mono ?_; rintro e w' ⟨rfl, hD2, hS2⟩))
  go_ret
  exact ⟨rfl, D, v, hD2, ((((Step.refl D w).alloc _).alloc _).alloc _).trans hS2⟩

set_option maxHeartbeats 400000 in
theorem write_arg (h : DiskIs w p D v A) (hd : A.dead = false) (s : Int) (a : Option Addr) (n c : Nat) (hb : (s < 0 ∨ 2 ≤ s) ∨ (0 ≤ s ∧ s < 2 ∧ n ≠ 32)) :
    Calls Try.prog 86 #[.pointer (some ⟨p, 0, none⟩), .int .i64 s, .slice a n c] w fun e w' => e = .returned (.int .i64 2) ∧ Now D p A w w' := by
  have HD := hide h
  obtain ⟨x1, x2, x3⟩ := three_boxes w (.pointer (some ⟨p, 0, none⟩)) (.int .i64 s) (.slice a n c) 29 3 49
  clear h
  rcases hb with hs | ⟨h0, h2, hn⟩
  · have HS := hide hs
    clear hs
    go_enter Try.func86, Try.ntmps86
    go_wp2_with (first
      | (go_at_call 33; refine (fault_alive ((((unhide HD).alloc _).alloc _).alloc _) hd).mono ?_; rintro e w' ⟨rfl, rfl⟩)
      | (go_at_call 89; refine (isSlot_no _ _ (unhide HS)).mono ?_; rintro e w' ⟨rfl, rfl⟩))
    go_ret
    exact ⟨rfl, D, v, (((unhide HD).alloc _).alloc _).alloc _, (((Step.refl D w).alloc _).alloc _).alloc _⟩
  · have hne : ((n : Int) == 32) = false := by simp; omega
    have hne2 : ((n : Int) != 32) = true := by simp; omega
    clear hn
    go_enter Try.func86, Try.ntmps86
    go_wp2_with (first
      | (go_at_call 33; refine (fault_alive ((((unhide HD).alloc _).alloc _).alloc _) hd).mono ?_; rintro e w' ⟨rfl, rfl⟩)
      | (go_at_call 89; refine (isSlot_yes _ _ h0 h2).mono ?_; rintro e w' ⟨rfl, rfl⟩))
    go_ret
    exact ⟨rfl, D, v, (((unhide HD).alloc _).alloc _).alloc _, (((Step.refl D w).alloc _).alloc _).alloc _⟩

set_option maxHeartbeats 400000 in
theorem write_dead (h : DiskIs w p D v A) (hd : A.dead = true) (s : Int) (a : Option Addr) (n c : Nat) : Calls Try.prog 86 #[.pointer (some ⟨p, 0, none⟩), .int .i64 s, .slice a n c] w fun e w' => e = .returned (.int .i64 3) ∧ Now D p A w w' := by
  have HD := hide h
  clear h
  go_enter Try.func86, Try.ntmps86
  go_wp2_with (go_at_call 33; refine (fault_dead ((((unhide HD).alloc _).alloc _).alloc _) hd).mono ?_; rintro e w' ⟨rfl, rfl⟩)
  go_ret
  exact ⟨rfl, D, v, (((unhide HD).alloc _).alloc _).alloc _, (((Step.refl D w).alloc _).alloc _).alloc _⟩

theorem slotSync0 (h : DiskIs w p D v A) : Calls Try.prog 71 #[.pointer (some ⟨p, 6, none⟩)] w fun e w' => e = .returned (.tuple #[]) ∧ Now D p { A with sf := upd A.sf 0 (A.sh 0) } w w' := slotSync_any h 0 (by omega)
theorem slotSync1 (h : DiskIs w p D v A) : Calls Try.prog 71 #[.pointer (some ⟨p, 70, none⟩)] w fun e w' => e = .returned (.tuple #[]) ∧ Now D p { A with sf := upd A.sf 1 (A.sh 1) } w w' := slotSync_any h 1 (by omega)

set_option maxHeartbeats 400000 in
theorem syncHeadLit_any (h : DiskIs w p D v A) (b1 : Nat) (c1 : w.cell? ⟨b1, 0, none⟩ = some (.pointer (some ⟨p, 0, none⟩))) (n1 : ¬ D b1) :
    Calls Try.prog 70 #[.pointer (some ⟨b1, 0, none⟩)] w fun e w' => e = .returned (.tuple #[]) ∧ Now D p A.syncedHead w w' := by
  have HD := hide h
  clear h
  go_enter Try.func70, Try.ntmps70
  go_wp2
  refine wp_loop_rounds 3 ?_
  rw [rounds_succ]; go_wp2_with fail
  refine (slotSync0 (unhide HD)).mono ?_
  rintro e w1 ⟨rfl, D1, v1, hD1, hS1⟩
  have c2 := hS1.cell (p := ⟨b1, 0, none⟩) c1 n1
  have n2 : ¬ D1 b1 := hS1.notOwn (World.block_lt_of_cell? _ ⟨b1, 0, none⟩ c1) n1
  have HD1 := hide hD1
  have HS1 := hide hS1
  clear hD1 hS1 c1 HD
  go_wp2_with fail
  rw [rounds_succ]; go_wp2_with fail
  refine (slotSync1 (unhide HD1)).mono ?_
  rintro e w2 ⟨rfl, D2, v2, hD2, hS2⟩
  go_wp2_with fail
  rw [rounds_succ]; go_wp2
  go_end0
  exact ⟨rfl, D2, v2, hD2, (unhide HS1).trans hS2⟩

theorem entersSyncHead (args : Array Value) (w : World) : (callFunc 70 args).run Try.prog w = .ok (.enter 70 args) w := enters_fn Try.func70 (by kernel_rfl) rfl args w

theorem syncHead_change (h : DiskIs w p D v A) (hc : A.calls ≠ 0) (b1 : Nat) (c1 : w.cell? ⟨b1, 0, none⟩ = some (.pointer (some ⟨p, 0, none⟩))) (n1 : ¬ D b1) :
    Calls Try.prog 59 #[.pointer (some ⟨p, 0, none⟩), .func (.func 70) #[] #[.pointer (some ⟨b1, 0, none⟩)]] w fun e w' => e = .returned (.int .i64 0) ∧ Now D p A.tick.syncedHead w w' :=
  change_do h hc _ _ (entersSyncHead _) (Now D p A.tick.syncedHead w) (fun _ h1 s1 =>
    (syncHeadLit_any h1 b1 (s1.cell c1 n1) n1).mono fun _ _ ⟨he, hN⟩ => ⟨he, Now.after s1 hN⟩)

theorem one_box (w : World) (x : Value) (t : TypeId) : (w.alloc (.cells #[x] t)).cell? ⟨w.heap.size, 0, none⟩ = some x := cell_of_row _ _ 0 _ _ _ (heap_alloc_new w _)

set_option maxHeartbeats 400000 in
theorem syncHead_ok (h : DiskIs w p D v A) (hd : A.dead = false) (hc : A.calls ≠ 0) : Calls Try.prog 30 #[.pointer (some ⟨p, 0, none⟩)] w fun e w' => e = .returned (.int .i64 0) ∧ Now D p A.tick.syncedHead w w' := by
  have HD := hide h
  clear h
  have hmk := makes
  go_enter Try.func30, Try.ntmps30
  go_wp2_with (first
    | (go_at_call 33; refine (fault_alive ((unhide HD).alloc _) hd).mono ?_; rintro e w' ⟨rfl, rfl⟩)
    | (go_at_call 59; refine (syncHead_change ((unhide HD).alloc _) hc w.heap.size (one_box w _ _) ((unhide HD).fresh _ (by omega))).mono ?_; rintro e w' ⟨rfl, hN⟩))
  go_ret
  exact ⟨rfl, Now.after ((Step.refl D w).alloc _) hN⟩

set_option maxHeartbeats 400000 in
theorem syncHead_kill (h : DiskIs w p D v A) (hd : A.dead = false) (hc : A.calls = 0) : Calls Try.prog 30 #[.pointer (some ⟨p, 0, none⟩)] w fun e w' => e = .returned (.int .i64 3) ∧ Now D p { A with dead := true } w w' := by
  have HD := hide h
  have HC := hide hc
  clear h hc
  have hmk := makes
  go_enter Try.func30, Try.ntmps30
  go_wp2_with (first
    | (go_at_call 33; refine (fault_alive ((unhide HD).alloc _) hd).mono ?_; rintro e w' ⟨rfl, rfl⟩)
    | (go_at_call 59; refine (change_kill ((unhide HD).alloc _) (unhide HC) _).mono ?_; rintro e w' ⟨rfl, hD2, hS2⟩))
  go_ret
  exact ⟨rfl, D, v, hD2, ((Step.refl D w).alloc _).trans hS2⟩

set_option maxHeartbeats 400000 in
theorem syncHead_dead (h : DiskIs w p D v A) (hd : A.dead = true) : Calls Try.prog 30 #[.pointer (some ⟨p, 0, none⟩)] w fun e w' => e = .returned (.int .i64 3) ∧ Now D p A w w' := by
  have HD := hide h
  clear h
  go_enter Try.func30, Try.ntmps30
  go_wp2_with (go_at_call 33; refine (fault_dead ((unhide HD).alloc _) hd).mono ?_; rintro e w' ⟨rfl, rfl⟩)
  go_ret
  exact ⟨rfl, D, v, (unhide HD).alloc _, (Step.refl D w).alloc _⟩
end
end Go.Proofs.Ytflfiobicapopaa

namespace Go.Proofs.Ytflfiobicapopaa
open Go.RowKit

theorem wpList_max2 {P : Program} {w : World} {ops : Array Oper} {rest : List Oper} {op : Oper} {a : Act} {Q : Exit → Act → World → Prop} (hgd : op.guard = none) (x y : Operand) (t s : TypeId)
    (ho : op.op = .call { callee := .builtin .max, args := #[x, y], argTypes := #[t, s] }) (k k' : IntKind) (m n : Int) (hx : a.eval x = .int k m) (hy : a.eval y = .int k' n)
    (h : wpList P ops Q rest (a.put op.dst (.int k (max m n))) w) : wpList P ops Q (op :: rest) a w := by
  refine wpList_plain hgd fun K hK => ?_
  have hrun : (Builtin.max_ #[t, s] op.type #[.int k m, .int k' n]).run P w = .ok (.int k (max m n)) w := by
    rw [run_max_int2]; congr 2; split <;> omega
  unfold Oper.wp
  simp [execOp, ho, resolve, invoke, builtin, hx, hy, hrun, Result.andThen]
  exact hK _ _ h

theorem Bytes.drop {w : World} {q n c m : Nat} {bs : List UInt8} (h : Bytes w (.slice (some ⟨q, 0, none⟩) n c) bs) (hl : bs.length = n) (hm : m ≤ n) : Bytes w (.slice (some ⟨q, m, none⟩) (n - m) (c - m)) (bs.drop m) := by
  rcases h with ⟨hv, _⟩ | ⟨ad, c', hv, hl1, hl2, hr⟩
  · cases hv
  · simp only [Value.slice.injEq, Option.some.injEq] at hv
    obtain ⟨rfl, _, rfl⟩ := hv
    refine .inr ⟨_, c - m, by rw [List.length_drop, hl], by rw [List.length_drop]; omega, by omega, fun j x hx => ?_⟩
    have := hr (m + j) x (by rw [List.map_drop, List.getElem?_drop] at hx; exact hx)
    rw [Addr.add_mid] at this ⊢
    rwa [Nat.zero_add] at this

section
variable {w0 w : World} {p : Nat} {D : Nat → Prop} {A : AD}

theorem Now.start {v : Nat → Value} (h : DiskIs w p D v A) : Now D p A w w := ⟨D, v, h, Step.refl D w⟩
theorem Now.trans {D' : Nat → Prop} {A' : AD} {w' : World} (h : Step D D' w0 w) (k : Now D' p A' w w') : Now D p A' w0 w' := by
  obtain ⟨D2, v2, k1, k2⟩ := k
  exact ⟨D2, v2, k1, h.trans k2⟩
theorem Now.alloc (h : Now D p A w0 w) (o : Obj) : Now D p A w0 (w.alloc o) := by
  obtain ⟨D', v', h1, h2⟩ := h
  exact ⟨D', v', h1.alloc o, h2.alloc o⟩
theorem Now.drewN (h : Now D p A w0 w) (n : Nat) : Now D p A w0 (w.drewN n) := by
  obtain ⟨D', v', h1, h2⟩ := h
  exact ⟨D', v', h1.drewN n, h2.drewN n⟩
theorem Now.fresh (h : Now D p A w0 w) {w' : World} {r : Value} {bs : List UInt8} (hf : Fresh w w' r bs) : Now D p A w0 w' := by
  obtain ⟨D', v', h1, h2⟩ := h
  exact ⟨D', v', hf.disk h1, h2.fresh w' hf⟩
/-- Whatever leaves all that was there alone. -/
theorem Now.below (h : Now D p A w0 w) {w' : World} (hb : Below w.heap.size w w') : Now D p A w0 w' := by
  obtain ⟨D', v', h1, h2⟩ := h
  exact ⟨D', v', h1.kept hb.size fun k hk => hb.block k (h1.lt k hk), h2.trans ⟨hb.os, hb.tape, hb.output, hb.size, fun k hk _ => hb.block k hk, fun _ x => .inl x⟩⟩
theorem Now.size (h : Now D p A w0 w) : w0.heap.size ≤ w.heap.size := by
  obtain ⟨_, _, _, h2⟩ := h
  exact h2.size
theorem Now.cell (h : Now D p A w0 w) {a : Addr} {x : Value} (hc : w0.cell? a = some x) (hn : ¬ D a.block) : w.cell? a = some x := by
  obtain ⟨_, _, _, h2⟩ := h
  exact h2.cell hc hn
theorem Now.bytes (h : Now D p A w0 w) {u : Value} {bs : List UInt8} (hb : Bytes w0 u bs) (hn : bs ≠ [] → ∀ k, u.ownBlock = some k → ¬ D k) : Bytes w u bs := by
  obtain ⟨_, _, _, h2⟩ := h
  exact h2.bytes hb hn
theorem Now.toBelow (h : Now D p A w0 w) {B : Nat} (hB : B ≤ w0.heap.size) (hD : ∀ k, D k → B ≤ k) : Below B w0 w := by
  obtain ⟨_, _, _, h2⟩ := h
  exact h2.below hB hD
theorem Now.okA (h : Now D p A w0 w) : A.Ok := by
  obtain ⟨_, _, h1, _⟩ := h
  exact h1.ok

/-- Bytes whose block the disk does not own: there are none, or it was there, and is not of D. -/
def Off (D : Nat → Prop) (w0 : World) (u : Value) (bs : List UInt8) : Prop := bs ≠ [] → ∀ k, u.ownBlock = some k → ¬ D k ∧ k < w0.heap.size

theorem Off.not {u : Value} {bs : List UInt8} (h : Off D w0 u bs) : bs ≠ [] → ∀ k, u.ownBlock = some k → ¬ D k := fun hb k hk => (h hb k hk).1
theorem Off.later {u : Value} {bs : List UInt8} (h : Off D w0 u bs) {D' : Nat → Prop} (hs : Step D D' w0 w) : bs ≠ [] → ∀ k, u.ownBlock = some k → ¬ D' k := fun hb k hk => hs.notOwn (h hb k hk).2 (h hb k hk).1
theorem Bytes.off {u : Value} {bs : List UInt8} (h : Bytes w0 u bs) (hD : ∀ k, D k → w0.heap.size ≤ k) : Off D w0 u bs := fun hb k hk => ⟨fun hd => by have := h.lt hb k hk; have := hD k hd; omega, h.lt hb k hk⟩
theorem Off.cut {a : Option Addr} {n c n' c' : Nat} {bs bs' : List UInt8} (h : Off D w0 (.slice a n c) bs) (hb : bs' ≠ [] → bs ≠ []) : Off D w0 (.slice a n' c') bs' := fun hn k hk => h (hb hn) k (by cases a <;> exact hk)

theorem nAppend_ok (h : Now D p A w0 w) (hd : A.dead = false) (hc : A.calls ≠ 0) (i : Nat) (hi : i < 2) (u : Value) (bs : List UInt8) (hu : Bytes w0 u bs) (hn : Off D w0 u bs) (hroom : ((A.x 0).length : Int) + (A.x 1).length + bs.length ≤ A.cap) :
    Calls Try.prog 23 #[.pointer (some ⟨p, 0, none⟩), .int .i64 i, u] w fun e w' => e = .returned (.int .i64 0) ∧ Now D p { A.tick with x := upd A.x i (A.x i ++ bs) } w0 w' := by
  obtain ⟨D', v', h1, h2⟩ := h
  exact (append_ok h1 hd hc i hi u bs (h2.bytes hu hn.not) (hn.later h2) hroom).mono fun _ _ ⟨he, hN⟩ => ⟨he, Now.trans h2 hN⟩

theorem nSync_ok (h : Now D p A w0 w) (hd : A.dead = false) (hc : A.calls ≠ 0) (i : Nat) (hi : i < 2) : Calls Try.prog 40 #[.pointer (some ⟨p, 0, none⟩), .int .i64 i] w fun e w' => e = .returned (.int .i64 0) ∧ Now D p (A.tick.synced i) w0 w' := by
  obtain ⟨D', v', h1, h2⟩ := h
  exact (sync_ok h1 hd hc i hi).mono fun _ _ ⟨he, hN⟩ => ⟨he, Now.trans h2 hN⟩

theorem nTruncate_ok (h : Now D p A w0 w) (hd : A.dead = false) (hc : A.calls ≠ 0) (i : Nat) (hi : i < 2) (m : Int) (n : Nat) (hm : m = n) (hn : n ≤ (A.x i).length) : Calls Try.prog 75 #[.pointer (some ⟨p, 0, none⟩), .int .i64 i, .int .i64 m] w fun e w' => e = .returned (.int .i64 0) ∧ Now D p (A.tick.cut i n) w0 w' := by
  subst hm
  obtain ⟨D', v', h1, h2⟩ := h
  exact (truncate_ok h1 hd hc i hi n hn).mono fun _ _ ⟨he, hN⟩ => ⟨he, Now.trans h2 hN⟩

theorem nTruncate_arg (h : Now D p A w0 w) (hd : A.dead = false) (s n : Int) (hb : badCut A s n) : Calls Try.prog 75 #[.pointer (some ⟨p, 0, none⟩), .int .i64 s, .int .i64 n] w fun e w' => e = .returned (.int .i64 2) ∧ Now D p A w0 w' := by
  obtain ⟨D', v', h1, h2⟩ := h
  exact (truncate_arg h1 hd s n hb).mono fun _ _ ⟨he, hN⟩ => ⟨he, Now.trans h2 hN⟩

theorem nWrite_ok (h : Now D p A w0 w) (hd : A.dead = false) (hc : A.calls ≠ 0) (i : Nat) (hi : i < 2) (a : Option Addr) (c : Nat) (bs : List UInt8) (hu : Bytes w0 (.slice a 32 c) bs) (hn : Off D w0 (.slice a 32 c) bs) (hb : bs.length = 32) :
    Calls Try.prog 86 #[.pointer (some ⟨p, 0, none⟩), .int .i64 i, .slice a 32 c] w fun e w' => e = .returned (.int .i64 0) ∧ Now D p (A.tick.wrote i bs) w0 w' := by
  obtain ⟨D', v', h1, h2⟩ := h
  exact (write_ok h1 hd hc i hi a c bs (h2.bytes hu hn.not) (hn.later h2) hb).mono fun _ _ ⟨he, hN⟩ => ⟨he, Now.trans h2 hN⟩

theorem nWrite_arg (h : Now D p A w0 w) (hd : A.dead = false) (s : Int) (a : Option Addr) (n c : Nat) (hb : (s < 0 ∨ 2 ≤ s) ∨ (0 ≤ s ∧ s < 2 ∧ n ≠ 32)) :
    Calls Try.prog 86 #[.pointer (some ⟨p, 0, none⟩), .int .i64 s, .slice a n c] w fun e w' => e = .returned (.int .i64 2) ∧ Now D p A w0 w' := by
  obtain ⟨D', v', h1, h2⟩ := h
  exact (write_arg h1 hd s a n c hb).mono fun _ _ ⟨he, hN⟩ => ⟨he, Now.trans h2 hN⟩

theorem nSyncHead_ok (h : Now D p A w0 w) (hd : A.dead = false) (hc : A.calls ≠ 0) : Calls Try.prog 30 #[.pointer (some ⟨p, 0, none⟩)] w fun e w' => e = .returned (.int .i64 0) ∧ Now D p A.tick.syncedHead w0 w' := by
  obtain ⟨D', v', h1, h2⟩ := h
  exact (syncHead_ok h1 hd hc).mono fun _ _ ⟨he, hN⟩ => ⟨he, Now.trans h2 hN⟩

theorem nCrash (h : Now D p A w0 w) (a b c d : Int) : Calls Try.prog 16 #[.pointer (some ⟨p, 0, none⟩), .agg #[.int .i64 a, .int .i64 b, .int .i64 c, .int .i64 d]] w fun e w' => e = .returned (.tuple #[]) ∧ Now D p (A.crashed (kp a b c d)) w0 w' := by
  obtain ⟨D', v', h1, h2⟩ := h
  exact (crash4 h1 a b c d).mono fun _ _ ⟨he, hN⟩ => ⟨he, Now.trans h2 hN⟩

theorem nRead_ok (h : Now D p A w0 w) (hd : A.dead = false) (i : Nat) (hi : i < 2) : Calls Try.prog 24 #[.pointer (some ⟨p, 0, none⟩), .int .i64 i] w fun e w' => ∃ r, e = .returned r ∧ Fresh w w' r (A.x i) ∧ Now D p A w0 w' := by
  have h0 := h
  obtain ⟨D', v', h1, h2⟩ := h
  exact (read_ok h1 hd i hi).mono fun _ _ ⟨r, he, hF⟩ => ⟨r, he, hF, h0.fresh hF⟩

theorem nRead_none (h : Now D p A w0 w) (s : Int) (hs : A.dead = true ∨ s < 0 ∨ 2 ≤ s) : Calls Try.prog 24 #[.pointer (some ⟨p, 0, none⟩), .int .i64 s] w fun e w' => e = .returned (.slice none 0 0) ∧ w' = w := by
  obtain ⟨D', v', h1, h2⟩ := h
  exact read_none h1 s hs

theorem nHead_ok (h : Now D p A w0 w) (hd : A.dead = false) (i : Nat) (hi : i < 2) : Calls Try.prog 78 #[.pointer (some ⟨p, 0, none⟩), .int .i64 i] w fun e w' => ∃ r, e = .returned r ∧ Fresh w w' r (A.sh i) ∧ Now D p A w0 w' := by
  have h0 := h
  obtain ⟨D', v', h1, h2⟩ := h
  exact (head_ok h1 hd i hi).mono fun _ _ ⟨r, he, hF⟩ => ⟨r, he, hF, h0.fresh hF⟩

theorem nHead_none (h : Now D p A w0 w) (s : Int) (hs : A.dead = true ∨ s < 0 ∨ 2 ≤ s) : Calls Try.prog 78 #[.pointer (some ⟨p, 0, none⟩), .int .i64 s] w fun e w' => e = .returned (.slice none 0 0) ∧ w' = w := by
  obtain ⟨D', v', h1, h2⟩ := h
  exact head_none h1 s hs

theorem nFree (h : Now D p A w0 w) (hd : A.dead = false) : Calls Try.prog 66 #[.pointer (some ⟨p, 0, none⟩)] w fun e w' => e = .returned (.int .i64 (A.cap - (A.x 0).length - (A.x 1).length)) ∧ w' = w := by
  obtain ⟨D', v', h1, h2⟩ := h
  exact free_alive h1 hd

theorem nDead (h : Now D p A w0 w) : Calls Try.prog 77 #[.pointer (some ⟨p, 0, none⟩)] w fun e w' => e = .returned (.bool A.dead) ∧ w' = w := by
  obtain ⟨D', v', h1, h2⟩ := h
  exact dead_any h1

/-- Anew from here: what was made since counts as there. -/
theorem Now.anew (h : Now D p A w0 w) : ∃ D', Now D' p A w w ∧ Step D D' w0 w ∧ ∀ k, D' k → k < w.heap.size := by
  obtain ⟨D', v', h1, h2⟩ := h
  exact ⟨D', ⟨D', v', h1, Step.refl _ _⟩, h2, h1.lt⟩

theorem nAppend0 (h : Now D p A w0 w) (hd : A.dead = false) (hc : A.calls ≠ 0) (u : Value) (bs : List UInt8) (hu : Bytes w0 u bs) (hn : Off D w0 u bs) (hroom : ((A.x 0).length : Int) + (A.x 1).length + bs.length ≤ A.cap) :
    Calls Try.prog 23 #[.pointer (some ⟨p, 0, none⟩), .int .i64 0, u] w fun e w' => e = .returned (.int .i64 0) ∧ Now D p { A.tick with x := upd A.x 0 (A.x 0 ++ bs) } w0 w' := nAppend_ok h hd hc 0 (by omega) u bs hu hn hroom
theorem nSync0 (h : Now D p A w0 w) (hd : A.dead = false) (hc : A.calls ≠ 0) : Calls Try.prog 40 #[.pointer (some ⟨p, 0, none⟩), .int .i64 0] w fun e w' => e = .returned (.int .i64 0) ∧ Now D p (A.tick.synced 0) w0 w' := nSync_ok h hd hc 0 (by omega)
theorem nTruncate0 (h : Now D p A w0 w) (hd : A.dead = false) (hc : A.calls ≠ 0) (m : Int) (n : Nat) (hm : m = n) (hn : n ≤ (A.x 0).length) : Calls Try.prog 75 #[.pointer (some ⟨p, 0, none⟩), .int .i64 0, .int .i64 m] w fun e w' => e = .returned (.int .i64 0) ∧ Now D p (A.tick.cut 0 n) w0 w' := nTruncate_ok h hd hc 0 (by omega) m n hm hn
theorem nRead0 (h : Now D p A w0 w) (hd : A.dead = false) : Calls Try.prog 24 #[.pointer (some ⟨p, 0, none⟩), .int .i64 0] w fun e w' => ∃ r, e = .returned r ∧ Fresh w w' r (A.x 0) ∧ Now D p A w0 w' := nRead_ok h hd 0 (by omega)

theorem nAppend1 (h : Now D p A w0 w) (hd : A.dead = false) (hc : A.calls ≠ 0) (u : Value) (bs : List UInt8) (hu : Bytes w0 u bs) (hn : Off D w0 u bs) (hroom : ((A.x 0).length : Int) + (A.x 1).length + bs.length ≤ A.cap) :
    Calls Try.prog 23 #[.pointer (some ⟨p, 0, none⟩), .int .i64 1, u] w fun e w' => e = .returned (.int .i64 0) ∧ Now D p { A.tick with x := upd A.x 1 (A.x 1 ++ bs) } w0 w' := nAppend_ok h hd hc 1 (by omega) u bs hu hn hroom
theorem nSync1 (h : Now D p A w0 w) (hd : A.dead = false) (hc : A.calls ≠ 0) : Calls Try.prog 40 #[.pointer (some ⟨p, 0, none⟩), .int .i64 1] w fun e w' => e = .returned (.int .i64 0) ∧ Now D p (A.tick.synced 1) w0 w' := nSync_ok h hd hc 1 (by omega)
theorem nTruncate1 (h : Now D p A w0 w) (hd : A.dead = false) (hc : A.calls ≠ 0) (m : Int) (n : Nat) (hm : m = n) (hn : n ≤ (A.x 1).length) : Calls Try.prog 75 #[.pointer (some ⟨p, 0, none⟩), .int .i64 1, .int .i64 m] w fun e w' => e = .returned (.int .i64 0) ∧ Now D p (A.tick.cut 1 n) w0 w' := nTruncate_ok h hd hc 1 (by omega) m n hm hn
theorem nRead1 (h : Now D p A w0 w) (hd : A.dead = false) : Calls Try.prog 24 #[.pointer (some ⟨p, 0, none⟩), .int .i64 1] w fun e w' => ∃ r, e = .returned r ∧ Fresh w w' r (A.x 1) ∧ Now D p A w0 w' := nRead_ok h hd 1 (by omega)

/-- New, its block under a name. -/
theorem new_at (c : Int) (h0 : 0 ≤ c) (h1 : c ≤ 1048576) (w : World) (p : Nat) (hp : w.heap.size = p) : Calls Try.prog 31 #[.int .i64 c] w fun e w' => e = .returned (.tuple #[.pointer (some ⟨p, 0, none⟩), .int .i64 0]) ∧
    Now (fun k => k = p) p (AD.new c) w' w' ∧ w'.heap.size = p + 1 ∧ Below p w w' := by
  subst hp
  exact (new_ok c h0 h1 w).mono fun _ _ ⟨he, hD, hz, hb⟩ => ⟨he, Now.start hD, hz, hb⟩
end
end Go.Proofs.Ytflfiobicapopaa

namespace Go.Proofs.Ytflfiobicapopaa
open Go.RowKit

section
variable {w0 w : World} {p : Nat} {D : Nat → Prop} {A : AD}

theorem nAppend_arg (h : Now D p A w0 w) (hd : A.dead = false) (s : Int) (hs : s < 0 ∨ 2 ≤ s) (a : Option Addr) (n c : Nat) : Calls Try.prog 23 #[.pointer (some ⟨p, 0, none⟩), .int .i64 s, .slice a n c] w fun e w' => e = .returned (.int .i64 2) ∧ Now D p A w0 w' := by
  obtain ⟨D', v', h1, h2⟩ := h
  exact (append_arg h1 hd s hs _ ⟨a, n, c, rfl⟩).mono fun _ _ ⟨he, hN⟩ => ⟨he, Now.trans h2 hN⟩
theorem nAppend_dead (h : Now D p A w0 w) (hd : A.dead = true) (s : Int) (a : Option Addr) (n c : Nat) : Calls Try.prog 23 #[.pointer (some ⟨p, 0, none⟩), .int .i64 s, .slice a n c] w fun e w' => e = .returned (.int .i64 3) ∧ Now D p A w0 w' := by
  obtain ⟨D', v', h1, h2⟩ := h
  exact (append_dead h1 hd s _ ⟨a, n, c, rfl⟩).mono fun _ _ ⟨he, hN⟩ => ⟨he, Now.trans h2 hN⟩
/-- The bytes lie in w itself. -/
theorem nAppend_full (h : Now D p A w0 w) (hd : A.dead = false) (i : Nat) (hi : i < 2) (u : Value) (bs : List UInt8) (hu : Bytes w u bs) (hroom : A.cap < ((A.x 0).length : Int) + (A.x 1).length + bs.length) :
    Calls Try.prog 23 #[.pointer (some ⟨p, 0, none⟩), .int .i64 i, u] w fun e w' => e = .returned (.int .i64 5) ∧ Now D p A w0 w' := by
  obtain ⟨D', v', h1, h2⟩ := h
  exact (append_full h1 hd i hi u bs hu hroom).mono fun _ _ ⟨he, hN⟩ => ⟨he, Now.trans h2 hN⟩
theorem nAppend_full0 (h : Now D p A w0 w) (hd : A.dead = false) (u : Value) (bs : List UInt8) (hu : Bytes w u bs) (hroom : A.cap < ((A.x 0).length : Int) + (A.x 1).length + bs.length) :
    Calls Try.prog 23 #[.pointer (some ⟨p, 0, none⟩), .int .i64 0, u] w fun e w' => e = .returned (.int .i64 5) ∧ Now D p A w0 w' := nAppend_full h hd 0 (by omega) u bs hu hroom
/-- Bytes in new memory are appended: w is w1 with one block more. -/
theorem nAppend_lit {w1 : World} {o : Obj} (h : Now D p A w0 w1) (hd : A.dead = false) (hc : A.calls ≠ 0) (i : Nat) (hi : i < 2) (n c : Nat) (bs : List UInt8) (hu : Bytes (w1.alloc o) (.slice (some ⟨w1.heap.size, 0, none⟩) n c) bs) (hroom : ((A.x 0).length : Int) + (A.x 1).length + bs.length ≤ A.cap) :
    Calls Try.prog 23 #[.pointer (some ⟨p, 0, none⟩), .int .i64 i, .slice (some ⟨w1.heap.size, 0, none⟩) n c] (w1.alloc o) fun e w' => e = .returned (.int .i64 0) ∧ Now D p { A.tick with x := upd A.x i (A.x i ++ bs) } w0 w' := by
  obtain ⟨D', v', h1, h2⟩ := h
  exact (append_ok (h1.alloc o) hd hc i hi _ bs hu (lit_not h1 _ _) hroom).mono fun _ _ ⟨he, hN⟩ => ⟨he, Now.trans (h2.alloc o) hN⟩
theorem nAppend_lit1 {w1 : World} {o : Obj} (h : Now D p A w0 w1) (hd : A.dead = false) (hc : A.calls ≠ 0) (n c : Nat) (bs : List UInt8) (hu : Bytes (w1.alloc o) (.slice (some ⟨w1.heap.size, 0, none⟩) n c) bs) (hroom : ((A.x 0).length : Int) + (A.x 1).length + bs.length ≤ A.cap) :
    Calls Try.prog 23 #[.pointer (some ⟨p, 0, none⟩), .int .i64 1, .slice (some ⟨w1.heap.size, 0, none⟩) n c] (w1.alloc o) fun e w' => e = .returned (.int .i64 0) ∧ Now D p { A.tick with x := upd A.x 1 (A.x 1 ++ bs) } w0 w' := nAppend_lit h hd hc 1 (by omega) n c bs hu hroom
theorem nAppend_kill0 (h : Now D p A w0 w) (hd : A.dead = false) (hc : A.calls = 0) (u : Value) (bs : List UInt8) (hu : Bytes w0 u bs) (hn : Off D w0 u bs) (hroom : ((A.x 0).length : Int) + (A.x 1).length + bs.length ≤ A.cap) :
    Calls Try.prog 23 #[.pointer (some ⟨p, 0, none⟩), .int .i64 0, u] w fun e w' => e = .returned (.int .i64 3) ∧ Now D p (A.killed 0 bs) w0 w' := by
  obtain ⟨D', v', h1, h2⟩ := h
  exact (append_kill h1 hd hc 0 (by omega) u bs (h2.bytes hu hn.not) (hn.later h2) hroom).mono fun _ _ ⟨he, hN⟩ => ⟨he, Now.trans h2 hN⟩
theorem nSync_kill0 (h : Now D p A w0 w) (hd : A.dead = false) (hc : A.calls = 0) : Calls Try.prog 40 #[.pointer (some ⟨p, 0, none⟩), .int .i64 0] w fun e w' => e = .returned (.int .i64 3) ∧ Now D p { A with dead := true } w0 w' := by
  obtain ⟨D', v', h1, h2⟩ := h
  exact (sync_kill h1 hd hc 0 (by omega)).mono fun _ _ ⟨he, hN⟩ => ⟨he, Now.trans h2 hN⟩
theorem nSync_dead (h : Now D p A w0 w) (hd : A.dead = true) (s : Int) : Calls Try.prog 40 #[.pointer (some ⟨p, 0, none⟩), .int .i64 s] w fun e w' => e = .returned (.int .i64 3) ∧ Now D p A w0 w' := by
  obtain ⟨D', v', h1, h2⟩ := h
  exact (sync_dead h1 hd s).mono fun _ _ ⟨he, hN⟩ => ⟨he, Now.trans h2 hN⟩
theorem nSyncHead_dead (h : Now D p A w0 w) (hd : A.dead = true) : Calls Try.prog 30 #[.pointer (some ⟨p, 0, none⟩)] w fun e w' => e = .returned (.int .i64 3) ∧ Now D p A w0 w' := by
  obtain ⟨D', v', h1, h2⟩ := h
  exact (syncHead_dead h1 hd).mono fun _ _ ⟨he, hN⟩ => ⟨he, Now.trans h2 hN⟩
theorem nWrite_dead (h : Now D p A w0 w) (hd : A.dead = true) (s : Int) (a : Option Addr) (n c : Nat) : Calls Try.prog 86 #[.pointer (some ⟨p, 0, none⟩), .int .i64 s, .slice a n c] w fun e w' => e = .returned (.int .i64 3) ∧ Now D p A w0 w' := by
  obtain ⟨D', v', h1, h2⟩ := h
  exact (write_dead h1 hd s a n c).mono fun _ _ ⟨he, hN⟩ => ⟨he, Now.trans h2 hN⟩
theorem nTruncate_dead (h : Now D p A w0 w) (hd : A.dead = true) (s n : Int) : Calls Try.prog 75 #[.pointer (some ⟨p, 0, none⟩), .int .i64 s, .int .i64 n] w fun e w' => e = .returned (.int .i64 3) ∧ Now D p A w0 w' := by
  obtain ⟨D', v', h1, h2⟩ := h
  exact (truncate_dead h1 hd s n).mono fun _ _ ⟨he, hN⟩ => ⟨he, Now.trans h2 hN⟩
theorem nFree_dead (h : Now D p A w0 w) (hd : A.dead = true) : Calls Try.prog 66 #[.pointer (some ⟨p, 0, none⟩)] w fun e w' => e = .returned (.int .i64 0) ∧ w' = w := by
  obtain ⟨D', v', h1, h2⟩ := h
  exact free_dead h1 hd
theorem nFuse (h : Now D p A w0 w) (hd : A.dead = false) (c k : Int) (hc : c ≤ 9223372036854775807) : Calls Try.prog 11 #[.pointer (some ⟨p, 0, none⟩), .int .i64 c, .int .i64 k] w fun e w' => e = .returned (.tuple #[]) ∧ Now D p (A.fused c k) w0 w' := by
  obtain ⟨D', v', h1, h2⟩ := h
  exact (fuse_alive h1 hd c k hc).mono fun _ _ ⟨he, hD, hS⟩ => ⟨he, D', v', hD, h2.trans hS⟩
theorem nFuse_dead (h : Now D p A w0 w) (hd : A.dead = true) (c k : Int) : Calls Try.prog 11 #[.pointer (some ⟨p, 0, none⟩), .int .i64 c, .int .i64 k] w fun e w' => e = .returned (.tuple #[]) ∧ w' = w := by
  obtain ⟨D', v', h1, h2⟩ := h
  exact fuse_dead h1 hd c k
end
end Go.Proofs.Ytflfiobicapopaa

namespace Go.Proofs.Ytflfiobicapopaa
open Go.RowKit

/-- What Write of bytes to slot i leaves; what SyncHead leaves; the error of both. -/
def wrA (A : AD) (i : Nat) (bs : List UInt8) : AD := if A.dead then A else if A.calls = 0 then { A with dead := true } else A.tick.wrote i bs
def shA (A : AD) : AD := if A.dead then A else if A.calls = 0 then { A with dead := true } else A.tick.syncedHead
def chE (A : AD) : Int := if A.dead then 3 else if A.calls = 0 then 3 else 0
/-- With a Serial one more. -/
def HeadD.next (h : HeadD) : HeadD := ⟨(h.s + 1) % 18446744073709551616, h.e, h.l⟩
def saveE (A : AD) (h : HeadD) : Int := if h.next.right then (if chE A = 0 then chE (wrA A (h.next.s % 2) h.next.bytes) else chE A) else 50
def saveD (A : AD) (h : HeadD) : AD := if h.next.right then (if chE A = 0 then shA (wrA A (h.next.s % 2) h.next.bytes) else wrA A (h.next.s % 2) h.next.bytes) else A
def saveH (A : AD) (h : HeadD) : HeadD := if saveE A h = 0 then h.next else ⟨0, 0, 0⟩
def loadE (A : AD) : Int := if A.dead then 3 else if (pickH (A.sh 0) (A.sh 1)).isSome then 0 else 50
def loadH (A : AD) : HeadD := if A.dead then ⟨0, 0, 0⟩ else pickV (A.sh 0) (A.sh 1)

theorem HeadD.next_fits {h : HeadD} (hf : h.fits) : h.next.fits := ⟨Nat.mod_lt _ (by omega), hf.2.1, hf.2.2⟩
theorem HeadD.next_s {h : HeadD} (hs : h.s + 1 < 18446744073709551616) : h.next.s = h.s + 1 := Nat.mod_eq_of_lt hs
theorem HeadD.next_right {h : HeadD} (hs : h.s + 1 < 18446744073709551616) (hl : h.l ≤ 1) : h.next.right = true :=
  HeadD.right_iff.2 ⟨by rw [HeadD.next_s hs]; omega, hl⟩

/-- A disk that lives and has no fuse. -/
structure Calm (A : AD) : Prop where
  live : A.dead = false
  calls : A.calls = -1
/-- What the slots have behind saves: last in its slot, prev in the other one; noughts where none was saved. All of it is safe. -/
structure Slots (A : AD) (last prev : HeadD) : Prop where
  calm : Calm A
  safe : ∀ i, i < 2 → A.sf i = A.sh i
  fits : last.fits
  none : last.s = 0 → last = ⟨0, 0, 0⟩ ∧ A.sh 0 = List.replicate 32 0 ∧ A.sh 1 = List.replicate 32 0
  some : last.s ≠ 0 → last.right = true ∧ A.sh (last.s % 2) = last.bytes
  one : last.s = 1 → A.sh 0 = List.replicate 32 0
  two : 2 ≤ last.s → A.sh ((last.s + 1) % 2) = prev.bytes ∧ prev.s + 1 = last.s ∧ prev.fits ∧ prev.right = true

theorem Slots.new (c : Int) : Slots (AD.new c) ⟨0, 0, 0⟩ ⟨0, 0, 0⟩ := by
  refine ⟨⟨rfl, rfl⟩, fun i _ => rfl, ⟨by decide, by decide, by decide⟩, fun _ => ⟨rfl, rfl, rfl⟩, fun h => (h rfl).elim, fun h => ?_, fun h => ?_⟩
  · exact absurd h (by decide)
  · exact absurd h (by decide)

theorem not_head_noughts : isHead (List.replicate 32 (0 : UInt8)) = false := by decide +kernel

/-- What is picked: of slot i the head h, and the other one's does not count, or less. -/
theorem pick_at {X : Nat → List UInt8} {h : HeadD} (hf : h.fits) (hr : h.right = true) (hx : X (h.s % 2) = h.bytes)
    (ho : isHead (X ((h.s + 1) % 2)) = true → (headOf (X ((h.s + 1) % 2))).s % 2 = (h.s + 1) % 2 → (headOf (X ((h.s + 1) % 2))).s < h.s) : pickH (X 0) (X 1) = Option.some h := by
  obtain ⟨i1, i2⟩ := read_bytes hf hr
  rcases Nat.mod_two_eq_zero_or_one h.s with e | e
  · have e1 : (h.s + 1) % 2 = 1 := by omega
    rw [e] at hx
    rw [e1] at ho
    unfold pickH
    rw [hx, i1, i2]
    by_cases c : isHead (X 1) = true
    · by_cases c2 : (headOf (X 1)).s % 2 = 1
      · have := ho c c2
        simp [c, c2, e, show ¬ (h.s < (headOf (X 1)).s) by omega]
      · simp [c, c2, e]
    · simp [c, e]
  · have e1 : (h.s + 1) % 2 = 0 := by omega
    rw [e] at hx
    rw [e1] at ho
    unfold pickH
    rw [hx, i1, i2]
    by_cases c : isHead (X 0) = true
    · by_cases c2 : (headOf (X 0)).s % 2 = 0
      · have := ho c c2
        simp [c, c2, e, show ((headOf (X 0)).s < h.s) by omega]
      · simp [c, c2, e]
    · simp [c, e]
theorem pick_none {X : Nat → List UInt8} (h0 : isHead (X 0) = false) (h1 : isHead (X 1) = false) : pickH (X 0) (X 1) = Option.none := by
  simp [pickH, h0, h1]

theorem load_some {A : AD} {h : HeadD} (hd : A.dead = false) (hp : pickH (A.sh 0) (A.sh 1) = Option.some h) : loadE A = 0 ∧ loadH A = h := by
  simp [loadE, loadH, hd, hp, pickV]
theorem load_none {A : AD} (hd : A.dead = false) (hp : pickH (A.sh 0) (A.sh 1) = Option.none) : loadE A = 50 ∧ loadH A = ⟨0, 0, 0⟩ := by
  simp [loadE, loadH, hd, hp, pickV]

/-- The other slot has less. -/
theorem Slots.less {A : AD} {last prev : HeadD} (h : Slots A last prev) (h0 : last.s ≠ 0) : isHead (A.sh ((last.s + 1) % 2)) = true → (headOf (A.sh ((last.s + 1) % 2))).s < last.s := by
  intro hi
  by_cases h1 : last.s = 1
  · rw [h1, show (1 + 1) % 2 = 0 from rfl, h.one h1, not_head_noughts] at hi
    cases hi
  · obtain ⟨a, b, c, d⟩ := h.two (by omega)
    rw [a, (read_bytes c d).2]
    omega
theorem Slots.load {A : AD} {last prev : HeadD} (h : Slots A last prev) (h0 : last.s ≠ 0) : loadE A = 0 ∧ loadH A = last :=
  load_some h.calm.live (pick_at h.fits (h.some h0).1 (h.some h0).2 fun hi _ => h.less h0 hi)
theorem Slots.load0 {A : AD} {last prev : HeadD} (h : Slots A last prev) (h0 : last.s = 0) : loadE A = 50 ∧ loadH A = ⟨0, 0, 0⟩ :=
  load_none h.calm.live (pick_none (by rw [(h.none h0).2.1]; exact not_head_noughts) (by rw [(h.none h0).2.2]; exact not_head_noughts))

/-- A save where nothing kills. -/
theorem save_calm {A : AD} {h : HeadD} (hd : A.dead = false) (hc : A.calls = -1 ∨ 2 ≤ A.calls) (hr : h.next.right = true) : saveE A h = 0 ∧ saveH A h = h.next ∧ saveD A h = (A.tick.wrote (h.next.s % 2) h.next.bytes).tick.syncedHead := by
  have e1 : A.calls ≠ 0 := by omega
  have e2 : (A.tick.wrote (h.next.s % 2) h.next.bytes).calls ≠ 0 := by
    show (if 0 < A.calls then A.calls - 1 else A.calls) ≠ 0
    split <;> omega
  have e3 : wrA A (h.next.s % 2) h.next.bytes = A.tick.wrote (h.next.s % 2) h.next.bytes := by simp [wrA, hd, e1]
  have e4 : (A.tick.wrote (h.next.s % 2) h.next.bytes).dead = false := hd
  have c1 : chE A = 0 := by simp [chE, hd, e1]
  have c2 : chE (A.tick.wrote (h.next.s % 2) h.next.bytes) = 0 := by simp [chE, e4, e2]
  have hE : saveE A h = 0 := by simp [saveE, hr, c1, e3, c2]
  exact ⟨hE, by simp [saveH, hE], by simp [saveD, hr, c1, e3, shA, e4, e2]⟩
end Go.Proofs.Ytflfiobicapopaa

namespace Go.Proofs.Ytflfiobicapopaa
open Go.RowKit

/-- What a save of h leaves in the slots, both what is safe and what is shown. -/
theorem saved_slots (A : AD) (i : Nat) (bs : List UInt8) (j : Nat) (hj : j < 2) : (A.tick.wrote i bs).tick.syncedHead.sh j = (if j = i then bs else A.sh j) ∧ (A.tick.wrote i bs).tick.syncedHead.sf j = (if j = i then bs else A.sh j) := by
  have e : (A.tick.wrote i bs).tick.syncedHead.sh j = (if j = i then bs else A.sh j) := rfl
  refine ⟨e, ?_⟩
  show upd (upd A.sf 0 (upd A.sh i bs 0)) 1 (upd A.sh i bs 1) j = upd A.sh i bs j
  rcases (show j = 0 ∨ j = 1 by omega) with rfl | rfl
  · rw [upd_other _ _ (by decide), upd_same]
  · rw [upd_same]
theorem tick_calm {A : AD} (h : A.calls = -1) : A.tick.calls = -1 := by
  show (if 0 < A.calls then A.calls - 1 else A.calls) = -1
  rw [h]; rfl

theorem Slots.save {A : AD} {last prev h : HeadD} (H : Slots A last prev) (hs : h.s = last.s) (hf : h.fits) (hl : h.l ≤ 1) (hn : last.s + 1 < 18446744073709551616) :
    saveE A h = 0 ∧ saveH A h = h.next ∧ Slots (saveD A h) h.next last := by
  have hs1 : h.next.s = last.s + 1 := by rw [HeadD.next_s (by omega), hs]
  have hr : h.next.right = true := HeadD.next_right (by omega) hl
  obtain ⟨a, b, c⟩ := save_calm H.calm.live (.inl H.calm.calls) hr
  refine ⟨a, b, ?_⟩
  rw [c]
  have S := saved_slots A (h.next.s % 2) h.next.bytes
  refine ⟨⟨H.calm.live, tick_calm (A := A.tick.wrote _ _) (tick_calm H.calm.calls)⟩, fun i hi => by rw [(S i hi).1, (S i hi).2], HeadD.next_fits hf, fun h0 => by omega, fun _ => ⟨hr, ?_⟩, fun h1 => ?_, fun h2 => ⟨?_, hs1.symm, ?_, ?_⟩⟩
  · rw [(S _ (Nat.mod_lt _ (by decide))).1, if_pos rfl]
  · rw [(S 0 (by decide)).1, if_neg (by omega)]
    exact (H.none (by omega)).2.1
  · rw [(S _ (Nat.mod_lt _ (by decide))).1, if_neg (by omega)]
    rw [show (h.next.s + 1) % 2 = last.s % 2 by omega]
    exact (H.some (by omega)).2
  · exact H.fits
  · exact (H.some (by omega)).1

theorem take_drop_same (x : List UInt8) (k : Nat) : x.take k ++ x.drop k = x := List.take_append_drop k x
theorem crashed_slots (A : AD) (a b c d : Int) (j : Nat) (hj : j < 2) : ∃ k, k ≤ 32 ∧ k = keepN (if j = 0 then c else d) 32 ∧ (A.crashed (kp a b c d)).sh j = (A.sh j).take k ++ (A.sf j).drop k ∧ (A.crashed (kp a b c d)).sf j = (A.sh j).take k ++ (A.sf j).drop k := by
  rcases (show j = 0 ∨ j = 1 by omega) with rfl | rfl
  · exact ⟨_, keepN_le _ _, rfl, rfl, rfl⟩
  · exact ⟨_, keepN_le _ _, rfl, rfl, rfl⟩
theorem Slots.crash {A : AD} {last prev : HeadD} (H : Slots A last prev) (a b c d : Int) : Slots (A.crashed (kp a b c d)) last prev := by
  have S : ∀ j, j < 2 → (A.crashed (kp a b c d)).sh j = A.sh j ∧ (A.crashed (kp a b c d)).sf j = A.sh j := fun j hj => by
    obtain ⟨k, _, _, e1, e2⟩ := crashed_slots A a b c d j hj
    rw [e1, e2, H.safe j hj, take_drop_same]
    exact ⟨rfl, rfl⟩
  refine ⟨⟨rfl, rfl⟩, fun i hi => by rw [(S i hi).1, (S i hi).2], H.fits, fun h => ?_, fun h => ?_, fun h => ?_, fun h => ?_⟩
  · rw [(S 0 (by decide)).1, (S 1 (by decide)).1]; exact H.none h
  · rw [(S _ (Nat.mod_lt _ (by decide))).1]; exact H.some h
  · rw [(S 0 (by decide)).1]; exact H.one h
  · rw [(S _ (Nat.mod_lt _ (by decide))).1]; exact H.two h

/-- A head that is picked, and may be saved on. -/
structure Good (A : AD) (y : HeadD) : Prop where
  calm : Calm A
  fits : y.fits
  right : y.right = true
  at' : A.sh (y.s % 2) = y.bytes
  pick : pickH (A.sh 0) (A.sh 1) = Option.some y
theorem Slots.good {A : AD} {last prev : HeadD} (H : Slots A last prev) (h0 : last.s ≠ 0) : Good A last :=
  ⟨H.calm, H.fits, (H.some h0).1, (H.some h0).2, pick_at H.fits (H.some h0).1 (H.some h0).2 fun hi _ => H.less h0 hi⟩
theorem Good.load {A : AD} {y : HeadD} (h : Good A y) : loadE A = 0 ∧ loadH A = y := load_some h.calm.live h.pick
theorem Good.save {A : AD} {y h : HeadD} (H : Good A y) (hs : h.s = y.s) (hf : h.fits) (hl : h.l ≤ 1) (hn : y.s + 1 < 18446744073709551616) : saveE A h = 0 ∧ saveH A h = h.next ∧ Good (saveD A h) h.next := by
  have hs1 : h.next.s = y.s + 1 := by rw [HeadD.next_s (by omega), hs]
  have hr : h.next.right = true := HeadD.next_right (by omega) hl
  obtain ⟨a, b, c⟩ := save_calm H.calm.live (.inl H.calm.calls) hr
  refine ⟨a, b, ?_⟩
  rw [c]
  have S := saved_slots A (h.next.s % 2) h.next.bytes
  have e1 := (S (h.next.s % 2) (Nat.mod_lt _ (by decide))).1
  rw [if_pos rfl] at e1
  have e2 := (S ((h.next.s + 1) % 2) (Nat.mod_lt _ (by decide))).1
  rw [if_neg (by omega), show (h.next.s + 1) % 2 = y.s % 2 by omega, H.at'] at e2
  refine ⟨⟨H.calm.live, tick_calm (A := A.tick.wrote _ _) (tick_calm H.calm.calls)⟩, HeadD.next_fits hf, hr, e1, pick_at (HeadD.next_fits hf) hr e1 fun _ _ => ?_⟩
  rw [show (h.next.s + 1) % 2 = y.s % 2 by omega, e2, (read_bytes H.fits H.right).2]
  omega

/-- What stands behind a crash within a save of n: the new one, or the one that was; nothing, where there was none. -/
theorem Slots.torn {A B : AD} {last prev new : HeadD} (H : Slots A last prev) (hs : new.s = last.s + 1) (hf : new.fits) (hr : new.right = true) (hc : Calm B)
    (k : Nat) (hk : k ≤ 32) (h1 : B.sh (new.s % 2) = new.bytes.take k ++ (A.sh (new.s % 2)).drop k) (h2 : B.sh (last.s % 2) = A.sh (last.s % 2)) :
    Good B new ∨ (last.s ≠ 0 ∧ Good B last) ∨ (last.s = 0 ∧ loadE B = 50 ∧ loadH B = ⟨0, 0, 0⟩) := by
  have eP : (new.s + 1) % 2 = last.s % 2 := by omega
  have eN : (last.s + 1) % 2 = new.s % 2 := by omega
  by_cases hi : B.sh (new.s % 2) = new.bytes
  · refine .inl ⟨hc, hf, hr, hi, pick_at hf hr hi ?_⟩
    rw [eP, h2]
    intro hh _
    by_cases h0 : last.s = 0
    · rw [h0, show 0 % 2 = 0 from rfl, (H.none h0).2.1, not_head_noughts] at hh
      cases hh
    · rw [(H.some h0).2, (read_bytes H.fits (H.some h0).1).2]; omega
  · -- either what was, or no head
    have key : isHead (B.sh (new.s % 2)) = true → B.sh (new.s % 2) = A.sh (new.s % 2) := fun hh => by
      rw [h1] at hh hi ⊢
      by_cases h2' : 2 ≤ last.s
      · obtain ⟨a, b, c, d⟩ := H.two h2'
        rw [eN] at a
        rw [a] at hh hi ⊢
        rcases torn_heads c hf (by omega) hk hh with e | e
        · exact (hi e).elim
        · exact e
      · have z : A.sh (new.s % 2) = List.replicate 32 0 := by
          by_cases h0 : last.s = 0
          · rw [hs, h0]; exact (H.none h0).2.2
          · rw [hs, show last.s = 1 by omega]; exact H.one (by omega)
        rw [z] at hh hi ⊢
        rw [List.drop_replicate] at hh hi
        exact (hi (torn_noughts hf (by omega) hk hh)).elim
    by_cases h0 : last.s = 0
    · refine .inr (.inr ⟨h0, load_none hc.live ?_⟩)
      have z := H.none h0
      have n1 : isHead (B.sh 1) = false := by
        cases hh : isHead (B.sh 1) with
        | false => rfl
        | true =>
          have e : new.s % 2 = 1 := by omega
          rw [e] at key
          rw [key hh, z.2.2, not_head_noughts] at hh
          exact hh.symm
      rw [h0, show 0 % 2 = 0 from rfl] at h2
      exact pick_none (by rw [h2, z.2.1]; exact not_head_noughts) n1
    · refine .inr (.inl ⟨h0, hc, H.fits, (H.some h0).1, h2.trans (H.some h0).2, pick_at H.fits (H.some h0).1 (h2.trans (H.some h0).2) ?_⟩)
      rw [eN]
      intro hh _
      have e := key hh
      rw [e] at hh ⊢
      rw [← eN] at hh ⊢
      exact H.less h0 hh
end Go.Proofs.Ytflfiobicapopaa
