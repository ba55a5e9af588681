/- What Append does to a disk that New made, where it is done, and where it kills. No statement of the seat is proved here. -/
import Derived.Test.YtbpjlkjokafdnaaMeth2
import Derived.Deep.RegionHeld3
namespace Go.Proofs.Ytbpjlkjokafdnaa
open Go.RowKit

section
variable {w : World} {p : Nat} {D : Nat → Prop} {v : Nat → Value} {A : AD}

theorem entersAppend (args : Array Value) (w : World) : (callFunc 44 args).run Try.prog w = .ok (.enter 44 args) w := enters_fn Try.func44 (by kernel_rfl) rfl args w

theorem append_change (h : DiskIs w p D v A) (hc : A.calls ≠ 0) (i : Nat) (hi : i < 2) (u : Value) (bs : List UInt8) (hu : Bytes w u bs) (hn : bs ≠ [] → ∀ k, u.ownBlock = some k → ¬ D k) (hroom : ((A.x i).length : Int) + bs.length + (A.x (1 - i)).length ≤ A.cap)
    (b1 b2 : Nat) (c1 : w.cell? ⟨b1, 0, none⟩ = some (.pointer (some ⟨p, 2 + 2 * i, none⟩))) (c2 : w.cell? ⟨b2, 0, none⟩ = some u) (n1 : ¬ D b1) (n2 : ¬ D b2) :
    Calls Try.prog 43 #[.pointer (some ⟨p, 0, none⟩), .func (.func 44) #[] #[.pointer (some ⟨b1, 0, none⟩), .pointer (some ⟨b2, 0, none⟩)]] w fun e w' => e = .returned (.int .i64 0) ∧ Now D p { A.tick with x := upd A.x i (A.x i ++ bs) } w w' :=
  change_do h hc _ _ (entersAppend _) (Now D p { A.tick with x := upd A.x i (A.x i ++ bs) } w) (fun _ h1 s1 =>
    (appendLit_any h1 i hi u bs (s1.bytes hu hn) hroom b1 b2 (s1.cell c1 n1) (s1.cell c2 n2)).mono fun _ _ ⟨he, hN⟩ => ⟨he, Now.after s1 hN⟩)

theorem two_boxes (w : World) (x y : Value) (t s : TypeId) (n : Nat) : (((w.alloc (.cells #[x] t)).drewN n).alloc (.cells #[y] s)).cell? ⟨w.heap.size, 0, none⟩ = some x ∧ (((w.alloc (.cells #[x] t)).drewN n).alloc (.cells #[y] s)).cell? ⟨w.heap.size + 1, 0, none⟩ = some y := by
  have h1 : (((w.alloc (.cells #[x] t)).drewN n).alloc (.cells #[y] s)).heap[w.heap.size]? = some (.cells #[x] t (0, 0)) := by
    rw [Below.heap_alloc _ _ _ (by simp)]; exact heap_alloc_new w _
  have h2 : (((w.alloc (.cells #[x] t)).drewN n).alloc (.cells #[y] s)).heap[w.heap.size + 1]? = some (.cells #[y] s (0, 0)) := by
    have := heap_alloc_new ((w.alloc (.cells #[x] t)).drewN n) (.cells #[y] s)
    have e : ((w.alloc (.cells #[x] t)).drewN n).heap.size = w.heap.size + 1 := by simp
    rw [e] at this; exact this
  exact ⟨cell_of_row _ _ 0 _ _ _ h1, cell_of_row _ _ 0 _ _ _ h2⟩

theorem DiskIs.fresh (h : DiskIs w p D v A) (k : Nat) (hk : w.heap.size ≤ k) : ¬ D k := fun hd => by have := h.lt k hd; omega

theorem room_of {i : Nat} (hi : i < 2) {n : Nat} (hroom : ((A.x 0).length : Int) + (A.x 1).length + n ≤ A.cap) : ((A.x i).length : Int) + n + (A.x (1 - i)).length ≤ A.cap := by
  rcases (show i = 0 ∨ i = 1 by omega) with rfl | rfl
  · show ((A.x 0).length : Int) + n + (A.x 1).length ≤ A.cap; omega
  · show ((A.x 1).length : Int) + n + (A.x 0).length ≤ A.cap; omega

set_option maxHeartbeats 1000000 in
theorem append_ok (h : DiskIs w p D v A) (hd : A.dead = false) (hc : A.calls ≠ 0) (i : Nat) (hi : i < 2) (u : Value) (bs : List UInt8) (hu : Bytes w u bs) (hn : bs ≠ [] → ∀ k, u.ownBlock = some k → ¬ D k) (hroom : ((A.x 0).length : Int) + (A.x 1).length + bs.length ≤ A.cap) :
    Calls Try.prog 21 #[.pointer (some ⟨p, 0, none⟩), .int .i64 i, u] w fun e w' => e = .returned (.int .i64 0) ∧ Now D p { A.tick with x := upd A.x i (A.x i ++ bs) } w w' := by
  obtain ⟨a, c, hv⟩ : ∃ a c, u = .slice a bs.length c := by
    rcases hu with ⟨rfl, rfl⟩ | ⟨b, c, rfl, _⟩
    · exact ⟨_, _, rfl⟩
    · exact ⟨_, _, rfl⟩
  subst hv
  have HD := hide h
  have HU := hide hu
  have HN := hide hn
  have hpl := h.lt p h.own
  clear h hu hn
  have hle : ¬ ((A.cap - (A.x 0).length - (A.x 1).length : Int) < bs.length) := by omega
  have hi0 : (0 : Int) ≤ (i : Int) := by omega
  have hi2 : (i : Int) < 2 := by omega
  have e1 : 2 + i * 2 = 2 + 2 * i := by omega
  have hmk := makes
  go_enter Try.func21, Try.ntmps21
  go_wp2_with (first
    | (go_at_call 37; refine (fault_alive ((unhide HD).alloc _) hd).mono ?_; rintro e w' ⟨rfl, rfl⟩)
    | (go_at_call 40; refine (isSegment_yes _ _ (by omega) (by omega)).mono ?_; rintro e w' ⟨rfl, rfl⟩))
  go_quiet ((go_at_call 38; exact Calls.quiet_of_same (room_any (((unhide HD).alloc _).drewN _))))
  go_wp2_with fail
  refine (append_change ((((unhide HD).alloc _).drewN _).alloc _) hc i hi (.slice a bs.length c) bs (Bytes.alloc (Bytes.kept ((unhide HU).alloc _) (fun _ _ _ => rfl)) _) (unhide HN) (room_of hi hroom) (w.heap.size + 1) w.heap.size
    (two_boxes w _ _ _ _ _).2 (two_boxes w _ _ _ _ _).1 ((unhide HD).fresh _ (by omega)) ((unhide HD).fresh _ (by omega))).mono ?_
  rintro e w' ⟨rfl, hN⟩
  go_wp2
  go_ret
  exact ⟨rfl, Now.after ((((Step.refl D w).alloc _).drewN _).alloc _) hN⟩

/-- Dead, with the first bytes of what was to be appended. -/
def AD.killed (A : AD) (i : Nat) (bs : List UInt8) : AD := { A with dead := true, x := upd A.x i (A.x i ++ bs.take (keepN A.part bs.length)) }

set_option maxHeartbeats 1000000 in
theorem append_kill (h : DiskIs w p D v A) (hd : A.dead = false) (hc : A.calls = 0) (i : Nat) (hi : i < 2) (u : Value) (bs : List UInt8) (hu : Bytes w u bs) (hn : bs ≠ [] → ∀ k, u.ownBlock = some k → ¬ D k) (hroom : ((A.x 0).length : Int) + (A.x 1).length + bs.length ≤ A.cap) :
    Calls Try.prog 21 #[.pointer (some ⟨p, 0, none⟩), .int .i64 i, u] w fun e w' => e = .returned (.int .i64 3) ∧ Now D p (A.killed i bs) w w' := by
  obtain ⟨a, c, hv, hlc⟩ : ∃ a c, u = .slice a bs.length c ∧ bs.length ≤ c := by
    rcases hu with ⟨rfl, rfl⟩ | ⟨b, c, rfl, hlc, _⟩
    · exact ⟨_, _, rfl, Nat.le_refl _⟩
    · exact ⟨_, _, rfl, hlc⟩
  subst hv
  have hkl := keepN_le A.part bs.length
  have HK := hide (keepN_eq A.part bs.length)
  unfold AD.killed
  generalize keepN A.part bs.length = t at *
  have hbt : Bytes w (.slice a t c) (bs.take t) := by
    rcases hu with ⟨hv, rfl⟩ | ⟨b, c', hv, hl1, hl2, hr⟩
    · simp only [Value.slice.injEq] at hv
      obtain ⟨rfl, _, rfl⟩ := hv
      have : t = 0 := by simpa using hkl
      subst this
      exact .inl ⟨rfl, by simp⟩
    · simp only [Value.slice.injEq] at hv
      obtain ⟨rfl, _, rfl⟩ := hv
      have hlt : (bs.take t).length = t := by rw [List.length_take]; omega
      refine .inr ⟨b, c, by rw [hlt], by omega, hl2, fun j x hx => hr j x ?_⟩
      rw [List.map_take, List.getElem?_take] at hx
      split at hx
      · exact hx
      · cases hx
  have HD := hide h
  have HB := hide hbt
  have HN := hide hn
  have hpart := h.part
  clear h hu hn hbt
  have hle : ¬ ((A.cap - (A.x 0).length - (A.x 1).length : Int) < bs.length) := by omega
  have hi0 : (0 : Int) ≤ (i : Int) := by omega
  have hi2 : (i : Int) < 2 := by omega
  have e1 : 2 + i * 2 = 2 + 2 * i := by omega
  have ht0 : (0 : Int) ≤ (t : Int) := by omega
  have ht1 : (t : Int) ≤ (c : Int) := by omega
  have hmk := makes
  have hpl := (unhide HD).lt p (unhide HD).own
  go_enter Try.func21, Try.ntmps21
  go_wp2_with (first
    | (go_at_call 37; refine (fault_alive ((unhide HD).alloc _) hd).mono ?_; rintro e w' ⟨rfl, rfl⟩)
    | (go_at_call 40; refine (isSegment_yes _ _ (by omega) (by omega)).mono ?_; rintro e w' ⟨rfl, rfl⟩))
  go_quiet ((go_at_call 38; exact Calls.quiet_of_same (room_any (((unhide HD).alloc _).drewN _))))
  go_wp2_with fail
  refine (change_kill ((((unhide HD).alloc _).drewN _).alloc _) hc _).mono ?_
  rintro e w2 ⟨rfl, hD2, hS2⟩
  have c1 := hS2.cell (two_boxes w _ _ _ _ _).2 ((unhide HD).fresh _ (by simp))
  have c2 := hS2.cell (two_boxes w _ _ _ _ _).1 ((unhide HD).fresh _ (by simp))
  have c3 := hD2.part
  have n1 : ¬ D (w.heap.size + 1) := (unhide HD).fresh _ (by omega)
  have n2 : ¬ D w.heap.size := (unhide HD).fresh _ (by omega)
  have HB2 : Hid (Bytes w2 (.slice a t c) (bs.take t)) := hS2.bytes (Bytes.alloc (Bytes.kept ((unhide HB).alloc _) (fun _ _ _ => rfl)) _) (by
    intro hne k hk; refine unhide HN (fun e => hne (by rw [e]; exact List.take_nil)) k ?_; cases a <;> exact hk)
  have HD2 := hide hD2
  have HS2 := hide hS2
  clear hD2 hS2
  go_wp2
  go_region_held3 (fun w' => w'.cell? ⟨w.heap.size + 1, 0, none⟩ = some (.pointer (some ⟨p, 2 + 2 * i, none⟩)) ∧ w'.cell? ⟨w.heap.size, 0, none⟩ = some (.slice a bs.length c) ∧ w'.cell? ⟨p, 135, none⟩ = some (.int .i64 A.part)) (go_keep)
    (first
      | (go_at_call 46; refine (between_any _ _ _).mono ?_; rintro e w' ⟨rfl, rfl⟩; rw [unhide HK])
      | (go_at_call 45; refine (grow_any ((unhide HD2).drewN _) i hi _ (bs.take t) (Bytes.kept (unhide HB2) (fun _ _ _ => rfl)) (by have := room_of hi hroom; rw [List.length_take]; show ((A.x i).length : Int) + (min t bs.length : Nat) + (A.x (1 - i)).length ≤ A.cap; omega)).mono ?_; rintro e w' ⟨rfl, D3, v3, hD3, hS3⟩; have q1 := hS3.cell (p := ⟨w.heap.size + 1, 0, none⟩) c1 n1; have q2 := hS3.cell (p := ⟨w.heap.size, 0, none⟩) c2 n2; have q3 := hD3.part))
  go_wp2
  go_ret
  exact ⟨rfl, D3, v3, hD3, ((((((Step.refl D w).alloc _).drewN _).alloc _).trans (unhide HS2)).drewN _).trans hS3⟩
end
end Go.Proofs.Ytbpjlkjokafdnaa
