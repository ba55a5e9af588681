/- What both disks tell; the slices that are handed out own their rows; New; an op's bytes. No statement of the seat is proved here. -/
import Derived.Test.YtbpjlkjokafdnaaTwin3
namespace Go.Proofs.Ytbpjlkjokafdnaa
open Go.RowKit

/-- Fresh, and a row of its own. -/
def FreshO (w w' : World) (r : Value) (bs : List UInt8) : Prop := Fresh w w' r bs ∧ w'.ownsRow 0 5 1 r bs.length (bs.map bv)
theorem FreshO.none (w : World) : FreshO w w (.slice none 0 0) [] := ⟨Fresh.none w, by simp, .inl ⟨rfl, rfl⟩⟩

set_option maxHeartbeats 400000 in
theorem clone_own (u : Value) (bs : List UInt8) (w : World) (h : Bytes w u bs) (hl : bs.length ≤ 1048576) : Calls Try.prog 41 #[u] w fun e w' => ∃ r, e = .returned r ∧ FreshO w w' r bs := by
  have hnil := fun a l c => run_eql_bytes_nil (P := Try.prog) w 28 5 a l c 0 0 Try.underlying28
  rcases h with ⟨rfl, rfl⟩ | ⟨ad, c, rfl, h1, h2, hr⟩
  · go_enter Try.func41, Try.ntmps41
    go_wp2
    go_ret
    exact ⟨.slice none 0 0, rfl, FreshO.none _⟩
  · obtain ⟨i, hi, hz0, hz1, hz2⟩ := infoByte
    have hown : (w.alloc (.cells #[] 5)).ownsRow 0 5 1 (.slice (some ⟨w.heap.size, 0, none⟩) 0 0) ([] : List UInt8).length (([] : List UInt8).map bv) :=
      ⟨by simp, .inr ⟨w.heap.size, 0, #[], rfl, Nat.zero_le _, heap_alloc_new w _, Nat.le_refl _, by decide, rfl, by simp⟩⟩
    have hb : Bytes (w.alloc (.cells #[] 5)) (.slice (some ad) bs.length c) bs := Bytes.alloc (.inr ⟨ad, c, rfl, h1, h2, hr⟩) _
    have HO := hide hown
    have HB := hide hb
    clear hown hb hr
    go_enter Try.func41, Try.ntmps41
    go_wp2_with (at_builtin; refine wpList_append_bytes _ rfl _ _ 28 rfl 5 i (.int .u8 0) Try.underlying28 hi hz0 hz1 hz2 rfl _ [] rfl (unhide HO) _ bs rfl (unhide HB) (by simp; omega) ?_)
    rintro v' w' r1 r2 r3
    go_wp2
    go_ret
    refine ⟨v', rfl, ⟨bytes_of_owns r1, fun k hk => ⟨?_, (r1.lt k hk).2⟩, ?_⟩, r1⟩
    · rcases r3 with r3 | ⟨k', r3, hle⟩
      · rw [r3] at hk; simp [Value.ownBlock] at hk; omega
      · rw [r3] at hk; cases hk; omega
    · exact ((Below.refl _ _).alloc (Nat.le_refl _) _).grown r2 (by simp) (fun k hk => by simp [Value.ownBlock] at hk; omega)

/-- What Read answers, and Head, and Free. -/
def rd (A : AD) (s : Int) : List UInt8 := if A.dead = true ∨ s < 0 ∨ 2 ≤ s then [] else A.x s.toNat
def hdOf (A : AD) (s : Int) : List UInt8 := if A.dead = true ∨ s < 0 ∨ 2 ≤ s then [] else A.sh s.toNat
def frOf (A : AD) : Int := if A.dead = true then 0 else A.cap - (A.x 0).length - (A.x 1).length

section
variable {w : World} {p : Nat} {D : Nat → Prop} {v : Nat → Value} {A : AD}

set_option maxHeartbeats 400000 in
theorem read_own (h : DiskIs w p D v A) (hd : A.dead = false) (i : Nat) (hi : i < 2) : Calls Try.prog 16 #[.pointer (some ⟨p, 0, none⟩), .int .i64 i] w fun e w' => ∃ r, e = .returned r ∧ FreshO w w' r (A.x i) := by
  have hl := h.len i hi
  have hb := bytes_of_owns (h.row i hi)
  have hdat := h.dat i hi
  have HD := hide h
  have HB := hide hb
  have hi0 : (0 : Int) ≤ (i : Int) := by omega
  have hi2 : (i : Int) < 2 := by omega
  have e1 : 2 + i * 2 = 2 + 2 * i := by omega
  clear h hb
  go_enter Try.func16, Try.ntmps16
  go_wp2_with (first
    | (go_at_call 37; refine (fault_alive (unhide HD) hd).mono ?_; rintro e w' ⟨rfl, rfl⟩)
    | (go_at_call 40; refine (isSegment_yes _ _ (by omega) (by omega)).mono ?_; rintro e w' ⟨rfl, rfl⟩)
    | (go_at_call 41; refine (clone_own _ (A.x i) _ (unhide HB) hl).mono ?_; rintro e w' ⟨r, rfl, hF⟩; have HF := hide hF; clear hF))
  go_ret
  exact ⟨r, rfl, unhide HF⟩

set_option maxHeartbeats 400000 in
theorem head_own (h : DiskIs w p D v A) (hd : A.dead = false) (i : Nat) (hi : i < 2) : Calls Try.prog 17 #[.pointer (some ⟨p, 0, none⟩), .int .i64 i] w fun e w' => ∃ r, e = .returned r ∧ FreshO w w' r (A.sh i) := by
  have hl := h.ok.sh i hi
  have hr := h.slh i hi
  have hb : Bytes w (.slice (some ⟨p, 38 + 64 * i, none⟩) 32 32) (A.sh i) := .inr ⟨⟨p, 38 + 64 * i, none⟩, 32, by rw [hl], by omega, by unfold maxLen; omega, fun j x hx => by rw [Addr.add_mid]; exact hr j x hx⟩
  have HD := hide h
  have HB := hide hb
  have hi0 : (0 : Int) ≤ (i : Int) := by omega
  have hi2 : (i : Int) < 2 := by omega
  have e1 : 6 + i * 64 = 6 + 64 * i := by omega
  have e2 : 6 + 64 * i + 32 = 38 + 64 * i := by omega
  have hl' : (A.sh i).length ≤ 1048576 := by omega
  have HL := hide hl'
  clear h hb hr hl hl'
  go_enter Try.func17, Try.ntmps17
  go_wp2_with (first
    | (go_at_call 37; refine (fault_alive (unhide HD) hd).mono ?_; rintro e w' ⟨rfl, rfl⟩)
    | (go_at_call 42; refine (isSlot_yes _ _ (by omega) (by omega)).mono ?_; rintro e w' ⟨rfl, rfl⟩)
    | (go_at_call 41; refine (clone_own _ (A.sh i) _ (unhide HB) (unhide HL)).mono ?_; rintro e w' ⟨r, rfl, hF⟩; have HF := hide hF; clear hF))
  go_ret
  exact ⟨r, rfl, unhide HF⟩

theorem dRead (h : DiskIs w p D v A) (s : Int) : Calls Try.prog 16 #[.pointer (some ⟨p, 0, none⟩), .int .i64 s] w fun e w' => ∃ r, e = .returned r ∧ FreshO w w' r (rd A s) := by
  unfold rd
  split
  · exact (read_none h s ‹_›).mono fun e w' ⟨he, hw⟩ => ⟨_, he, by subst hw; exact FreshO.none _⟩
  · rename_i hn
    have hd : A.dead = false := by simpa using fun h => hn (.inl h)
    obtain ⟨i, hi, rfl⟩ := seg_of (fun h => hn (.inr h))
    rw [Int.toNat_natCast]
    exact read_own h hd i hi

theorem dHead (h : DiskIs w p D v A) (s : Int) : Calls Try.prog 17 #[.pointer (some ⟨p, 0, none⟩), .int .i64 s] w fun e w' => ∃ r, e = .returned r ∧ FreshO w w' r (hdOf A s) := by
  unfold hdOf
  split
  · exact (head_none h s ‹_›).mono fun e w' ⟨he, hw⟩ => ⟨_, he, by subst hw; exact FreshO.none _⟩
  · rename_i hn
    have hd : A.dead = false := by simpa using fun h => hn (.inl h)
    obtain ⟨i, hi, rfl⟩ := seg_of (fun h => hn (.inr h))
    rw [Int.toNat_natCast]
    exact head_own h hd i hi

theorem dFree (h : DiskIs w p D v A) : Calls Try.prog 13 #[.pointer (some ⟨p, 0, none⟩)] w fun e w' => e = .returned (.int .i64 (frOf A)) ∧ w' = w := by
  unfold frOf
  split
  · exact free_dead h ‹_›
  · rename_i hn; exact free_alive h (by simpa using hn)
end

section
variable {w : World} {B : Nat → Prop} {A : AD} {cs : Array Value}

theorem mRead (hV : RefV w B A cs) (hok : A.Ok) (s : Int) : Calls Try.prog 19 #[.agg cs, .int .i64 s] w fun e w' => ∃ r, e = .returned r ∧ Bytes w' r (rd A s) ∧ Below w.heap.size w w' := by
  obtain ⟨c, P, N, C, bf, n, k, d, x, rfl, hB, hA⟩ := hV
  cases hd : A.dead
  rotate_left
  · obtain rfl : d = true := hA.dead.trans hd
    have e : rd A s = [] := if_pos (.inl hd)
    rw [e]
    exact (ref_read_dead c P N C bf n k w s).mono fun e w' ⟨he, hb⟩ => ⟨_, he, .inl ⟨rfl, rfl⟩, hb⟩
  obtain rfl : d = false := hA.dead.trans hd
  by_cases hs : s < 0 ∨ 2 ≤ s
  · have e : rd A s = [] := if_pos (.inr hs)
    rw [e]
    exact (ref_read_out c P N C bf n k w s hs).mono fun e w' ⟨he, hb⟩ => ⟨_, he, .inl ⟨rfl, rfl⟩, hb⟩
  · have e : rd A s = A.x s.toNat := if_neg (by rintro (h | h); · rw [hd] at h; cases h
                                                · exact hs h)
    rw [e]
    obtain ⟨i, hi, rfl⟩ := seg_of hs
    rw [Int.toNat_natCast, ← hA.seg i hi]
    exact (rRead_at c P N C bf n k w i hi x (fun j hj => (hB j (by omega)).1) (hA.lens hok).1).mono fun e w' ⟨r, he, hF⟩ => ⟨r, he, hF.1, hF.2.2⟩

theorem mHead (hV : RefV w B A cs) (hok : A.Ok) (s : Int) : Calls Try.prog 20 #[.agg cs, .int .i64 s] w fun e w' => ∃ r, e = .returned r ∧ Bytes w' r (hdOf A s) ∧ Below w.heap.size w w' := by
  obtain ⟨c, P, N, C, bf, n, k, d, x, rfl, hB, hA⟩ := hV
  cases hd : A.dead
  rotate_left
  · obtain rfl : d = true := hA.dead.trans hd
    have e : hdOf A s = [] := if_pos (.inl hd)
    rw [e]
    exact (ref_head_dead c P N C bf n k w s).mono fun e w' ⟨he, hb⟩ => ⟨_, he, .inl ⟨rfl, rfl⟩, hb⟩
  obtain rfl : d = false := hA.dead.trans hd
  by_cases hs : s < 0 ∨ 2 ≤ s
  · have e : hdOf A s = [] := if_pos (.inr hs)
    rw [e]
    exact (ref_head_out c P N C bf n k w s hs).mono fun e w' ⟨he, hb⟩ => ⟨_, he, .inl ⟨rfl, rfl⟩, hb⟩
  · have e : hdOf A s = A.sh s.toNat := if_neg (by rintro (h | h); · rw [hd] at h; cases h
                                                   · exact hs h)
    rw [e]
    obtain ⟨i, hi, rfl⟩ := seg_of hs
    rw [Int.toNat_natCast]
    obtain ⟨j, hj, hj8, hx⟩ := head_of hA hok (fun j hj => hB.len j hj) i hi
    rw [← hx]
    exact (rHead_at c P N C bf n k w i hi j hj).mono fun e w' ⟨he, hb⟩ => ⟨_, he, (hB.later hb j hj8).1, hb⟩

theorem mFree (hV : RefV w B A cs) (hok : A.Ok) : Calls Try.prog 14 #[.agg cs] w fun e w' => e = .returned (.int .i64 (frOf A)) ∧ Below w.heap.size w w' := by
  obtain ⟨c, P, N, C, bf, n, k, d, x, rfl, hB, hA⟩ := hV
  cases hd : A.dead
  rotate_left
  · obtain rfl : d = true := hA.dead.trans hd
    have e : frOf A = 0 := if_pos hd
    rw [e]
    exact ref_free_dead c P N C bf n k w
  · obtain rfl : d = false := hA.dead.trans hd
    have e : frOf A = A.cap - (A.x 0).length - (A.x 1).length := if_neg (by rw [hd]; decide)
    rw [e, ← hA.cap, ← show (x 0).length + (x 1).length = (A.x 0).length from hA.segLen 0 (by omega), ← show (x 2).length + (x 3).length = (A.x 1).length from hA.segLen 1 (by omega)]
    obtain ⟨l1, l2, l3⟩ := hA.lens hok
    exact ref_free c P N C bf n k w x (fun j hj => (hB j (by omega)).1) l1 l2

/-- The cell that says whether it is dead. -/
theorem RefV.deadCell (hV : RefV w B A cs) {q : Nat} {t : TypeId} (h : w.heap[q]? = some (.cells cs t (0, 0))) : w.cell? ⟨q, 12, none⟩ = some (.bool A.dead) := by
  obtain ⟨c, P, N, C, bf, n, k, d, x, rfl, hB, hA⟩ := hV
  rw [← hA.dead]
  exact cell_of_row _ _ 12 _ _ _ h
end

end Go.Proofs.Ytbpjlkjokafdnaa
