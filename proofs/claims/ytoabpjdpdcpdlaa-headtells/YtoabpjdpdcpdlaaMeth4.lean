/- What New, Free, Dead, Read, Head, Sync and Fuse do. No statement of the seat is proved here. -/
import Derived.Test.YtoabpjdpdcpdlaaMeth3
namespace Go.Proofs.Ytoabpjdpdcpdlaa
open Go.RowKit

section
variable {w : World} {p : Nat} {D : Nat → Prop} {v : Nat → Value} {A : AD}

set_option maxHeartbeats 400000 in
theorem free_alive (h : DiskIs w p D v A) (hd : A.dead = false) : Calls Try.prog 50 #[.pointer (some ⟨p, 0, none⟩)] w fun e w' => e = .returned (.int .i64 (A.cap - (A.x 0).length - (A.x 1).length)) ∧ w' = w := by
  have HD := hide h
  clear h
  go_enter Try.func50, Try.ntmps50
  go_wp2_with (first
    | (go_at_call 42; refine (fault_alive (unhide HD) hd).mono ?_; rintro e w' ⟨rfl, rfl⟩)
    | (go_at_call 66; refine (room_any (unhide HD)).mono ?_; rintro e w' ⟨rfl, rfl⟩))
  go_ret
  exact ⟨rfl, rfl⟩

set_option maxHeartbeats 400000 in
theorem free_dead (h : DiskIs w p D v A) (hd : A.dead = true) : Calls Try.prog 50 #[.pointer (some ⟨p, 0, none⟩)] w fun e w' => e = .returned (.int .i64 0) ∧ w' = w := by
  have HD := hide h
  clear h
  go_enter Try.func50, Try.ntmps50
  go_wp2_with (go_at_call 42; refine (fault_dead (unhide HD) hd).mono ?_; rintro e w' ⟨rfl, rfl⟩)
  go_ret
  exact ⟨rfl, rfl⟩

set_option maxHeartbeats 400000 in
theorem dead_any (h : DiskIs w p D v A) : Calls Try.prog 40 #[.pointer (some ⟨p, 0, none⟩)] w fun e w' => e = .returned (.bool A.dead) ∧ w' = w := by
  cases hd : A.dead
  · have HD := hide h
    clear h
    go_enter Try.func40, Try.ntmps40
    go_wp2_with (go_at_call 42; refine (fault_alive (unhide HD) hd).mono ?_; rintro e w' ⟨rfl, rfl⟩)
    go_ret
    exact ⟨rfl, rfl⟩
  · have HD := hide h
    clear h
    go_enter Try.func40, Try.ntmps40
    go_wp2_with (go_at_call 42; refine (fault_dead (unhide HD) hd).mono ?_; rintro e w' ⟨rfl, rfl⟩)
    go_ret
    exact ⟨rfl, rfl⟩

theorem Fresh.step {w w' : World} {r : Value} {bs : List UInt8} (h : Fresh w w' r bs) (D : Nat → Prop) : Step D D w w' :=
  ⟨h.2.2.os, h.2.2.tape, h.2.2.output, h.2.2.size, fun k hk _ => h.2.2.block k hk, fun _ h => .inl h⟩
theorem Fresh.disk {w w' : World} {r : Value} {bs : List UInt8} (h : Fresh w w' r bs) (hd : DiskIs w p D v A) : DiskIs w' p D v A :=
  hd.kept h.2.2.size fun k hk => h.2.2.block k (hd.lt k hk)
theorem Fresh.not {w w' : World} {r : Value} {bs : List UInt8} (h : Fresh w w' r bs) (hd : DiskIs w p D v A) : ∀ k, r.ownBlock = some k → ¬ D k := fun k hk hD => by
  have := hd.lt k hD; have := (h.2.1 k hk).1; omega
theorem Fresh.none (w : World) : Fresh w w (.slice none 0 0) [] := ⟨.inl ⟨rfl, rfl⟩, fun _ hk => (nomatch hk), Below.refl _ _⟩

theorem DiskIs.len (h : DiskIs w p D v A) (i : Nat) (hi : i < 2) : (A.x i).length ≤ 1048576 := by
  have := h.ok.room; have := h.ok.cap
  rcases (show i = 0 ∨ i = 1 by omega) with rfl | rfl <;> omega

set_option maxHeartbeats 400000 in
theorem read_ok (h : DiskIs w p D v A) (hd : A.dead = false) (i : Nat) (hi : i < 2) : Calls Try.prog 48 #[.pointer (some ⟨p, 0, none⟩), .int .i64 i] w fun e w' => ∃ r, e = .returned r ∧ Fresh w w' r (A.x i) := by
  have hl := h.len i hi
  have hb := bytes_of_owns (h.row i hi)
  have hdat := h.dat i hi
  have HD := hide h
  have HB := hide hb
  have hi0 : (0 : Int) ≤ (i : Int) := by omega
  have hi2 : (i : Int) < 2 := by omega
  have e1 : 2 + i * 2 = 2 + 2 * i := by omega
  clear h hb
  go_enter Try.func48, Try.ntmps48
  go_wp2_with (first
    | (go_at_call 42; refine (fault_alive (unhide HD) hd).mono ?_; rintro e w' ⟨rfl, rfl⟩)
    | (go_at_call 64; refine (isSegment_yes _ _ (by omega) (by omega)).mono ?_; rintro e w' ⟨rfl, rfl⟩)
    | (go_at_call 53; refine (clone_any _ (A.x i) _ (unhide HB) hl).mono ?_; rintro e w' ⟨r, rfl, hF⟩))
  go_ret
  exact ⟨r, rfl, hF⟩

set_option maxHeartbeats 400000 in
theorem read_none (h : DiskIs w p D v A) (s : Int) (hs : A.dead = true ∨ s < 0 ∨ 2 ≤ s) : Calls Try.prog 48 #[.pointer (some ⟨p, 0, none⟩), .int .i64 s] w fun e w' => e = .returned (.slice none 0 0) ∧ w' = w := by
  have HD := hide h
  clear h
  cases hd : A.dead
  · have hs' : s < 0 ∨ 2 ≤ s := by simpa [hd] using hs
    have HS := hide hs'
    clear hs hs'
    go_enter Try.func48, Try.ntmps48
    go_wp2_with (first
      | (go_at_call 42; refine (fault_alive (unhide HD) hd).mono ?_; rintro e w' ⟨rfl, rfl⟩)
      | (go_at_call 64; refine (isSegment_no _ _ (unhide HS)).mono ?_; rintro e w' ⟨rfl, rfl⟩))
    go_ret
    exact ⟨rfl, rfl⟩
  · clear hs
    go_enter Try.func48, Try.ntmps48
    go_wp2_with (go_at_call 42; refine (fault_dead (unhide HD) hd).mono ?_; rintro e w' ⟨rfl, rfl⟩)
    go_ret
    exact ⟨rfl, rfl⟩

/-- With a fuse of so many calls. -/
def AD.fused (A : AD) (c k : Int) : AD := { A with calls := max c (-1), part := k }

theorem fused_eq (A : AD) (c k n : Int) (h : n = max c (-1)) : A.fused c k = { A with calls := n, part := k } := by subst h; rfl

set_option maxHeartbeats 400000 in
theorem fuse_alive (h : DiskIs w p D v A) (hd : A.dead = false) (c k : Int) (hc : c ≤ 9223372036854775807) : Calls Try.prog 25 #[.pointer (some ⟨p, 0, none⟩), .int .i64 c, .int .i64 k] w fun e w' => e = .returned (.tuple #[]) ∧ DiskIs w' p D v (A.fused c k) ∧ Step D D w w' := by
  have h1 := h.calls
  have h2 := h.part
  have f1 := h.frz 134
  have f2 := h.frz 135
  have HD := hide h
  clear h
  go_enter Try.func25, Try.ntmps25
  go_wp2_with (go_at_call 42; refine (fault_alive (unhide HD) hd).mono ?_; rintro e w' ⟨rfl, rfl⟩)
  · go_end0
    refine ⟨rfl, ?_, ((Step.refl D _).setCell (p := ⟨p, 134, none⟩) (unhide HD).own _).setCell (p := ⟨p, 135, none⟩) (unhide HD).own _⟩
    rw [fused_eq A c k (-1) (by omega)]
    exact ((unhide HD).setCalls (-1) (by omega)).setPart k
  · go_end0
    refine ⟨rfl, ?_, ((Step.refl D _).setCell (p := ⟨p, 134, none⟩) (unhide HD).own _).setCell (p := ⟨p, 135, none⟩) (unhide HD).own _⟩
    rw [fused_eq A c k c (by omega)]
    exact ((unhide HD).setCalls c (by omega)).setPart k

set_option maxHeartbeats 400000 in
theorem fuse_dead (h : DiskIs w p D v A) (hd : A.dead = true) (c k : Int) : Calls Try.prog 25 #[.pointer (some ⟨p, 0, none⟩), .int .i64 c, .int .i64 k] w fun e w' => e = .returned (.tuple #[]) ∧ w' = w := by
  have HD := hide h
  clear h
  go_enter Try.func25, Try.ntmps25
  go_wp2_with (go_at_call 42; refine (fault_dead (unhide HD) hd).mono ?_; rintro e w' ⟨rfl, rfl⟩)
  first | go_end0 | (refine bodyPost_ret (v := .tuple #[]) (by simp [results, Try.results25, go_sem]) rfl ?_)
  exact ⟨rfl, rfl⟩

/-- A new disk. -/
def AD.new (c : Int) : AD := { cap := c, x := fun _ => [], safe := fun _ => 0, sf := fun _ => List.replicate 32 0, sh := fun _ => List.replicate 32 0, calls := -1, part := 0, dead := false }

set_option maxHeartbeats 400000 in
theorem new_arg (c : Int) (hc : c < 0 ∨ 1048576 < c) (w : World) : Calls Try.prog 19 #[.int .i64 c] w fun e w' => e = .returned (.tuple #[.pointer none, .int .i64 2]) ∧ w' = w := by
  rcases hc with hc | hc
  · go_enter Try.func19, Try.ntmps19
    go_wp2
    go_ret2
    exact ⟨rfl, rfl⟩
  · have h0 : ¬ c < 0 := by omega
    go_enter Try.func19, Try.ntmps19
    go_wp2
    go_ret2
    exact ⟨rfl, rfl⟩

/-- A disk of zeros. -/
def zDisk : Array Value := #[.pointer none, .int .i64 0, .slice none 0 0, .int .i64 0, .slice none 0 0, .int .i64 0] ++ Array.replicate 128 (.int .u8 0) ++ #[.int .i64 0, .int .i64 0, .bool false]
theorem infoZero : (Try.prog.info? 79).map (·.zero) = some (some (.agg zDisk)) := by kernel_rfl
theorem run_zeroDisk (w : World) : (zeroValue 79).run Try.prog w = .ok (.agg zDisk) w := by
  obtain ⟨i, hi, hz⟩ := Option.map_eq_some_iff.1 infoZero
  simp [zeroValue, typeInfo, hi, hz]
theorem size_zDisk : zDisk.size = 137 := by decide +kernel

theorem zDisk_slots (j : Nat) (h : j < 128) : zDisk[6 + j]? = some (.int .u8 0) := by
  unfold zDisk
  rw [Array.getElem?_append_left (by simp; omega), Array.getElem?_append_right (by simp), Array.getElem?_replicate]
  simp; omega

theorem newDisk_is (w : World) (c : Int) (h0 : 0 ≤ c) (h1 : c ≤ 1048576) (C : Array Value) (hC : C = (((zDisk.setIfInBounds 1 (.int .i64 c)).setIfInBounds 134 (.int .i64 (-1))).setIfInBounds 135 (.int .i64 0)).setIfInBounds 0 (.pointer (some ⟨w.heap.size, 0, none⟩))) :
    DiskIs (w.alloc (.cells C 79)) w.heap.size (fun k => k = w.heap.size) (fun _ => .slice none 0 0) (AD.new c) := by
  have hb : (w.alloc (.cells C 79)).heap[w.heap.size]? = some (.cells C 79 (0, 0)) := heap_alloc_new w _
  have hc : ∀ j, (w.alloc (.cells C 79)).cell? ⟨w.heap.size, j, none⟩ = C[j]? := fun j => cell_of_row _ _ j C _ _ hb
  have hlit : ∀ j : Nat, j ≠ 0 → j ≠ 1 → j ≠ 134 → j ≠ 135 → C[j]? = zDisk[j]? := fun j x a b d => by
    rw [hC, Array.getElem?_setIfInBounds_ne (by omega), Array.getElem?_setIfInBounds_ne (by omega), Array.getElem?_setIfInBounds_ne (by omega), Array.getElem?_setIfInBounds_ne (by omega)]
  have hsl : ∀ o, 6 ≤ o → o + 32 ≤ 134 → (w.alloc (.cells C 79)).rangeAt w.heap.size o ((List.replicate 32 (0 : UInt8)).map bv) := fun o ho1 ho2 j u hu => by
    have hj : j < 32 := by have := (List.getElem?_eq_some_iff.1 hu).1; simpa using this
    have hu' : u = .int .u8 0 := by
      rw [List.map_replicate, List.getElem?_replicate, if_pos hj] at hu
      cases hu; rfl
    rw [hc, hu', hlit _ (by omega) (by omega) (by omega) (by omega), show o + j = 6 + (o + j - 6) by omega]
    exact zDisk_slots _ (by omega)
  refine ⟨⟨C, hb⟩, ?_, ?_, ?_, ?_, fun i hi => hsl _ (by omega) (by omega), fun i hi => hsl _ (by omega) (by omega), ?_, ?_, ?_, fun i _ => World.ownsRow_nil _ _ _ _, rfl, fun i k _ hk => (nomatch hk), fun k hk => (nomatch hk), fun k hk => ?_, ⟨fun i _ => Nat.le_refl _, ?_, h1, fun i _ => rfl, fun i _ => rfl, by show (-1 : Int) ≤ -1 ∧ (-1 : Int) ≤ 9223372036854775807; omega⟩⟩
  · rw [hc, hC, Array.getElem?_setIfInBounds_self_of_lt (by simp [size_zDisk])]
  · rw [hc, hC, Array.getElem?_setIfInBounds_ne (by omega), Array.getElem?_setIfInBounds_ne (by omega), Array.getElem?_setIfInBounds_ne (by omega), Array.getElem?_setIfInBounds_self_of_lt (by rw [size_zDisk]; omega)]
    rfl
  · intro i hi
    rw [hc, hlit _ (by omega) (by omega) (by omega) (by omega)]
    rcases (show i = 0 ∨ i = 1 by omega) with rfl | rfl <;> kernel_rfl
  · intro i hi
    rw [hc, hlit _ (by omega) (by omega) (by omega) (by omega)]
    rcases (show i = 0 ∨ i = 1 by omega) with rfl | rfl <;> kernel_rfl
  · rw [hc, hC, Array.getElem?_setIfInBounds_ne (by omega), Array.getElem?_setIfInBounds_ne (by omega), Array.getElem?_setIfInBounds_self_of_lt (by simp [size_zDisk])]
    rfl
  · rw [hc, hC, Array.getElem?_setIfInBounds_ne (by omega), Array.getElem?_setIfInBounds_self_of_lt (by simp [size_zDisk])]
    rfl
  · rw [hc, hlit _ (by omega) (by omega) (by omega) (by omega)]
    kernel_rfl
  · subst hk; simp
  · show ((0 : Nat) : Int) + ((0 : Nat) : Int) ≤ c; omega

set_option maxRecDepth 100000 in
set_option maxHeartbeats 1000000 in
theorem new_ok (c : Int) (h0 : 0 ≤ c) (h1 : c ≤ 1048576) (w : World) : Calls Try.prog 19 #[.int .i64 c] w fun e w' => e = .returned (.tuple #[.pointer (some ⟨w.heap.size, 0, none⟩), .int .i64 0]) ∧
    DiskIs w' w.heap.size (fun k => k = w.heap.size) (fun _ => .slice none 0 0) (AD.new c) ∧ w'.heap.size = w.heap.size + 1 ∧ Below w.heap.size w w' := by
  have h0' : ¬ c < 0 := by omega
  have h1' : ¬ 1048576 < c := by omega
  have hN := newDisk_is w c h0 h1
  have hz := run_zeroDisk
  have hs := size_zDisk
  have hp0 : ∀ C, C = ((zDisk.setIfInBounds 1 (.int .i64 c)).setIfInBounds 134 (.int .i64 (-1))).setIfInBounds 135 (.int .i64 0) → (w.alloc (.cells C 79)).cell? ⟨w.heap.size, 0, none⟩ = some (.pointer none) := fun C hC => by
    rw [cell_of_row _ _ 0 C _ _ (heap_alloc_new w _), hC, Array.getElem?_setIfInBounds_ne (by omega), Array.getElem?_setIfInBounds_ne (by omega), Array.getElem?_setIfInBounds_ne (by omega)]
    rfl
  have hp := hp0 _ rfl
  have HN := hide (hN _ rfl)
  clear hN hp0
  generalize zDisk = Z at *
  go_enter Try.func19, Try.ntmps19
  go_wp2
  go_ret2
  exact ⟨rfl, unhide HN, by simp, (Below.refl _ _).alloc (Nat.le_refl _) _⟩
end
end Go.Proofs.Ytoabpjdpdcpdlaa
