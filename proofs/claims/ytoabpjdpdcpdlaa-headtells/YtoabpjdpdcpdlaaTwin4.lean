/- What both disks tell; the slices that are handed out own their rows; New; an op's bytes. No statement of the seat is proved here. -/
import Derived.Test.YtoabpjdpdcpdlaaTwin1
namespace Go.Proofs.Ytoabpjdpdcpdlaa
open Go.RowKit

theorem FreshO.none (w : World) : FreshO w w (.slice none 0 0) [] := ⟨Fresh.none w, by simp, .inl ⟨rfl, rfl⟩⟩

set_option maxHeartbeats 400000 in
theorem clone_own (u : Value) (bs : List UInt8) (w : World) (h : Bytes w u bs) (hl : bs.length ≤ 1048576) : Calls Try.prog 53 #[u] w fun e w' => ∃ r, e = .returned r ∧ FreshO w w' r bs := by
  have hnil := fun a l c => run_eql_bytes_nil (P := Try.prog) w 25 5 a l c 0 0 Try.underlying25
  rcases h with ⟨rfl, rfl⟩ | ⟨ad, c, rfl, h1, h2, hr⟩
  · go_enter Try.func53, Try.ntmps53
    go_wp2
    go_ret
    exact ⟨.slice none 0 0, rfl, FreshO.none _⟩
  · obtain ⟨i, hi, hz0, hz1, hz2⟩ := infoByte
    have hown : (w.alloc (.cells #[] 5)).ownsRow 0 5 1 (.slice (some ⟨w.heap.size, 0, none⟩) 0 0) ([] : List UInt8).length (([] : List UInt8).map bv) :=
      ⟨by simp, .inr ⟨w.heap.size, 0, #[], rfl, Nat.zero_le _, heap_alloc_new w _, Nat.le_refl _, by decide, rfl, by simp⟩⟩
    have hb : Bytes (w.alloc (.cells #[] 5)) (.slice (some ad) bs.length c) bs := Bytes.alloc (.inr ⟨ad, c, rfl, h1, h2, hr⟩) _
    have HO := hide hown
    have HB := hide hb
    clear hown hb hr
    go_enter Try.func53, Try.ntmps53
    go_wp2_with (at_builtin; refine wpList_append_bytes _ rfl _ _ 25 rfl 5 i (.int .u8 0) Try.underlying25 hi hz0 hz1 hz2 rfl _ [] rfl (unhide HO) _ bs rfl (unhide HB) (by simp; omega) ?_)
    rintro v' w' r1 r2 r3
    go_wp2
    go_ret
    refine ⟨v', rfl, ⟨bytes_of_owns r1, fun k hk => ⟨?_, (r1.lt k hk).2⟩, ?_⟩, r1⟩
    · rcases r3 with r3 | ⟨k', r3, hle⟩
      · rw [r3] at hk; simp [Value.ownBlock] at hk; omega
      · rw [r3] at hk; cases hk; omega
    · exact ((Below.refl _ _).alloc (Nat.le_refl _) _).grown r2 (by simp) (fun k hk => by simp [Value.ownBlock] at hk; omega)

/-- What Read answers, and Head, and Free. -/
def rd (A : AD) (s : Int) : List UInt8 := if A.dead = true ∨ s < 0 ∨ 2 ≤ s then [] else A.x s.toNat
def hdOf (A : AD) (s : Int) : List UInt8 := if A.dead = true ∨ s < 0 ∨ 2 ≤ s then [] else A.sh s.toNat
def frOf (A : AD) : Int := if A.dead = true then 0 else A.cap - (A.x 0).length - (A.x 1).length

section
variable {w : World} {p : Nat} {D : Nat → Prop} {v : Nat → Value} {A : AD}

set_option maxHeartbeats 400000 in
theorem read_own (h : DiskIs w p D v A) (hd : A.dead = false) (i : Nat) (hi : i < 2) : Calls Try.prog 48 #[.pointer (some ⟨p, 0, none⟩), .int .i64 i] w fun e w' => ∃ r, e = .returned r ∧ FreshO w w' r (A.x i) := by
  have hl := h.len i hi
  have hb := bytes_of_owns (h.row i hi)
  have hdat := h.dat i hi
  have HD := hide h
  have HB := hide hb
  have hi0 : (0 : Int) ≤ (i : Int) := by omega
  have hi2 : (i : Int) < 2 := by omega
  have e1 : 2 + i * 2 = 2 + 2 * i := by omega
  clear h hb
  go_enter Try.func48, Try.ntmps48
  go_wp2_with (first
    | (go_at_call 42; refine (fault_alive (unhide HD) hd).mono ?_; rintro e w' ⟨rfl, rfl⟩)
    | (go_at_call 64; refine (isSegment_yes _ _ (by omega) (by omega)).mono ?_; rintro e w' ⟨rfl, rfl⟩)
    | (go_at_call 53; refine (clone_own _ (A.x i) _ (unhide HB) hl).mono ?_; rintro e w' ⟨r, rfl, hF⟩; have HF := hide hF; clear hF))
  go_ret
  exact ⟨r, rfl, unhide HF⟩

set_option maxHeartbeats 400000 in
theorem head_own (h : DiskIs w p D v A) (hd : A.dead = false) (i : Nat) (hi : i < 2) : Calls Try.prog 30 #[.pointer (some ⟨p, 0, none⟩), .int .i64 i] w fun e w' => ∃ r, e = .returned r ∧ FreshO w w' r (A.sh i) := by
  have hl := h.ok.sh i hi
  have hr := h.slh i hi
  have hb : Bytes w (.slice (some ⟨p, 38 + 64 * i, none⟩) 32 32) (A.sh i) := .inr ⟨⟨p, 38 + 64 * i, none⟩, 32, by rw [hl], by omega, by unfold maxLen; omega, fun j x hx => by rw [Addr.add_mid]; exact hr j x hx⟩
  have HD := hide h
  have HB := hide hb
  have hi0 : (0 : Int) ≤ (i : Int) := by omega
  have hi2 : (i : Int) < 2 := by omega
  have e1 : 6 + i * 64 = 6 + 64 * i := by omega
  have e2 : 6 + 64 * i + 32 = 38 + 64 * i := by omega
  have hl' : (A.sh i).length ≤ 1048576 := by omega
  have HL := hide hl'
  clear h hb hr hl hl'
  go_enter Try.func30, Try.ntmps30
  go_wp2_with (first
    | (go_at_call 42; refine (fault_alive (unhide HD) hd).mono ?_; rintro e w' ⟨rfl, rfl⟩)
    | (go_at_call 52; refine (isSlot_yes _ _ (by omega) (by omega)).mono ?_; rintro e w' ⟨rfl, rfl⟩)
    | (go_at_call 53; refine (clone_own _ (A.sh i) _ (unhide HB) (unhide HL)).mono ?_; rintro e w' ⟨r, rfl, hF⟩; have HF := hide hF; clear hF))
  go_ret
  exact ⟨r, rfl, unhide HF⟩

theorem dRead (h : DiskIs w p D v A) (s : Int) : Calls Try.prog 48 #[.pointer (some ⟨p, 0, none⟩), .int .i64 s] w fun e w' => ∃ r, e = .returned r ∧ FreshO w w' r (rd A s) := by
  unfold rd
  split
  · exact (read_none h s ‹_›).mono fun e w' ⟨he, hw⟩ => ⟨_, he, by subst hw; exact FreshO.none _⟩
  · rename_i hn
    have hd : A.dead = false := by simpa using fun h => hn (.inl h)
    obtain ⟨i, hi, rfl⟩ := seg_of (fun h => hn (.inr h))
    rw [Int.toNat_natCast]
    exact read_own h hd i hi

theorem dHead (h : DiskIs w p D v A) (s : Int) : Calls Try.prog 30 #[.pointer (some ⟨p, 0, none⟩), .int .i64 s] w fun e w' => ∃ r, e = .returned r ∧ FreshO w w' r (hdOf A s) := by
  unfold hdOf
  split
  · exact (head_none h s ‹_›).mono fun e w' ⟨he, hw⟩ => ⟨_, he, by subst hw; exact FreshO.none _⟩
  · rename_i hn
    have hd : A.dead = false := by simpa using fun h => hn (.inl h)
    obtain ⟨i, hi, rfl⟩ := seg_of (fun h => hn (.inr h))
    rw [Int.toNat_natCast]
    exact head_own h hd i hi

theorem dFree (h : DiskIs w p D v A) : Calls Try.prog 50 #[.pointer (some ⟨p, 0, none⟩)] w fun e w' => e = .returned (.int .i64 (frOf A)) ∧ w' = w := by
  unfold frOf
  split
  · exact free_dead h ‹_›
  · rename_i hn; exact free_alive h (by simpa using hn)
end

section
variable {w : World} {B : Nat → Prop} {A : AD} {cs : Array Value}

theorem mRead (hV : RefV w B A cs) (hok : A.Ok) (s : Int) : Calls Try.prog 49 #[.agg cs, .int .i64 s] w fun e w' => ∃ r, e = .returned r ∧ Bytes w' r (rd A s) ∧ Below w.heap.size w w' := by
  obtain ⟨c, P, N, C, bf, n, k, d, x, rfl, hB, hA⟩ := hV
  cases hd : A.dead
  rotate_left
  · obtain rfl : d = true := hA.dead.trans hd
    have e : rd A s = [] := if_pos (.inl hd)
    rw [e]
    exact (ref_read_dead c P N C bf n k w s).mono fun e w' ⟨he, hb⟩ => ⟨_, he, .inl ⟨rfl, rfl⟩, hb⟩
  obtain rfl : d = false := hA.dead.trans hd
  by_cases hs : s < 0 ∨ 2 ≤ s
  · have e : rd A s = [] := if_pos (.inr hs)
    rw [e]
    exact (ref_read_out c P N C bf n k w s hs).mono fun e w' ⟨he, hb⟩ => ⟨_, he, .inl ⟨rfl, rfl⟩, hb⟩
  · have e : rd A s = A.x s.toNat := if_neg (by rintro (h | h); · rw [hd] at h; cases h
                                                · exact hs h)
    rw [e]
    obtain ⟨i, hi, rfl⟩ := seg_of hs
    rw [Int.toNat_natCast, ← hA.seg i hi]
    exact (rRead_at c P N C bf n k w i hi x (fun j hj => (hB j (by omega)).1) (hA.lens hok).1).mono fun e w' ⟨r, he, hF⟩ => ⟨r, he, hF.1, hF.2.2⟩

theorem mHead (hV : RefV w B A cs) (hok : A.Ok) (s : Int) : Calls Try.prog 41 #[.agg cs, .int .i64 s] w fun e w' => ∃ r, e = .returned r ∧ Bytes w' r (hdOf A s) ∧ Below w.heap.size w w' := by
  obtain ⟨c, P, N, C, bf, n, k, d, x, rfl, hB, hA⟩ := hV
  cases hd : A.dead
  rotate_left
  · obtain rfl : d = true := hA.dead.trans hd
    have e : hdOf A s = [] := if_pos (.inl hd)
    rw [e]
    exact (ref_head_dead c P N C bf n k w s).mono fun e w' ⟨he, hb⟩ => ⟨_, he, .inl ⟨rfl, rfl⟩, hb⟩
  obtain rfl : d = false := hA.dead.trans hd
  by_cases hs : s < 0 ∨ 2 ≤ s
  · have e : hdOf A s = [] := if_pos (.inr hs)
    rw [e]
    exact (ref_head_out c P N C bf n k w s hs).mono fun e w' ⟨he, hb⟩ => ⟨_, he, .inl ⟨rfl, rfl⟩, hb⟩
  · have e : hdOf A s = A.sh s.toNat := if_neg (by rintro (h | h); · rw [hd] at h; cases h
                                                   · exact hs h)
    rw [e]
    obtain ⟨i, hi, rfl⟩ := seg_of hs
    rw [Int.toNat_natCast]
    obtain ⟨j, hj, hj8, hx⟩ := head_of hA hok (fun j hj => hB.len j hj) i hi
    rw [← hx]
    exact (rHead_at c P N C bf n k w i hi j hj).mono fun e w' ⟨he, hb⟩ => ⟨_, he, (hB.later hb j hj8).1, hb⟩

theorem mFree (hV : RefV w B A cs) (hok : A.Ok) : Calls Try.prog 51 #[.agg cs] w fun e w' => e = .returned (.int .i64 (frOf A)) ∧ Below w.heap.size w w' := by
  obtain ⟨c, P, N, C, bf, n, k, d, x, rfl, hB, hA⟩ := hV
  cases hd : A.dead
  rotate_left
  · obtain rfl : d = true := hA.dead.trans hd
    have e : frOf A = 0 := if_pos hd
    rw [e]
    exact ref_free_dead c P N C bf n k w
  · obtain rfl : d = false := hA.dead.trans hd
    have e : frOf A = A.cap - (A.x 0).length - (A.x 1).length := if_neg (by rw [hd]; decide)
    rw [e, ← hA.cap, ← show (x 0).length + (x 1).length = (A.x 0).length from hA.segLen 0 (by omega), ← show (x 2).length + (x 3).length = (A.x 1).length from hA.segLen 1 (by omega)]
    obtain ⟨l1, l2, l3⟩ := hA.lens hok
    exact ref_free c P N C bf n k w x (fun j hj => (hB j (by omega)).1) l1 l2

/-- The cell that says whether it is dead. -/
theorem RefV.deadCell (hV : RefV w B A cs) {q : Nat} {t : TypeId} (h : w.heap[q]? = some (.cells cs t (0, 0))) : w.cell? ⟨q, 12, none⟩ = some (.bool A.dead) := by
  obtain ⟨c, P, N, C, bf, n, k, d, x, rfl, hB, hA⟩ := hV
  rw [← hA.dead]
  exact cell_of_row _ _ 12 _ _ _ h
end

end Go.Proofs.Ytoabpjdpdcpdlaa

namespace Go.Proofs.Ytoabpjdpdcpdlaa
open Go.RowKit

set_option maxHeartbeats 4000000 in
theorem mNew (c : Int) (w : World) : Calls Try.prog 20 #[.int .i64 c] w fun e w' => ∃ cs, e = .returned (.agg cs) ∧ RefV w' (fun b => w.heap.size ≤ b) (AD.new c) cs ∧ Below w.heap.size w w' := by
  obtain ⟨Z, hZ, hmk⟩ := make32c
  have HZ := hide hZ
  clear hZ
  go_enter Try.func20, Try.ntmps20
  go_wp2_with fail
  generalize hww : World.alloc (World.alloc w _) _ = w1
  have HG : Hid (w1.heap[w.heap.size + 1]? = some (.cells (rl c (fun _ => none) (fun _ => 0) (fun _ => 0) false 0 0 false) 43 (0, 0))) := by show w1.heap[w.heap.size + 1]? = _; rw [← hww]; exact heap_last _ _ _ (by simp)
  have hg2 : ∃ z, z.size = 13 ∧ w1.heap[w.heap.size]? = some (.cells z 43 (0, 0)) := ⟨_, rfl, by rw [← hww, Below.heap_alloc _ _ _ (by simp)]; exact heap_alloc_new w _⟩
  have HB : Hid (Below w.heap.size w w1) := by show Below w.heap.size w w1; rw [← hww]; exact ((Below.refl _ w).alloc (Nat.le_refl _) _).alloc (by simp) _
  have HS : Hid (w1.heap.size = w.heap.size + 2) := by show w1.heap.size = _; rw [← hww]; simp
  clear hww
  obtain ⟨z, hz, hg2⟩ := hg2
  have HZZ := hide hz
  have HG2 := hide hg2
  clear hz hg2
  refine wp_loop_rounds 3 ?_
  have hga : (w1.alloc (.cells Z 5)).heap[w.heap.size + 1]? = some (.cells (rl c (fun _ => none) (fun _ => 0) (fun _ => 0) false 0 0 false) 43 (0, 0)) := (Below.heap_alloc _ _ _ (by have := unhide HS; omega)).trans (unhide HG)
  have hgb : (w1.alloc (.cells Z 5)).heap[w.heap.size]? = some (.cells z 43 (0, 0)) := (Below.heap_alloc _ _ _ (by have := unhide HS; omega)).trans (unhide HG2)
  have hgz : (w1.alloc (.cells Z 5)).heap[w1.heap.size]? = some (.cells Z 5 (0, 0)) := heap_alloc_new _ _
  have y5 : (w1.alloc (.cells Z 5)).cell? ⟨w.heap.size + 1, 5, none⟩ = some (.slice none 0 0) := cell_of_row _ _ 5 _ _ _ hga
  have f5 : (w1.alloc (.cells Z 5)).frozen? ⟨w.heap.size + 1, 5, none⟩ = false := rl_frz hga 5
  have hbs : Below w.heap.size w ((w1.alloc (.cells Z 5)).setCell ⟨w.heap.size + 1, 5, none⟩ (.slice (some ⟨w1.heap.size, 0, none⟩) 32 32)) := ((unhide HB).alloc (by have := unhide HS; omega) _).setCell (p := ⟨w.heap.size + 1, 5, none⟩) (by show w.heap.size ≤ w.heap.size + 1; omega) _
  have hgs := rl_set hga 4 (by omega) (some ⟨w1.heap.size, 0, none⟩) 32 32
  have hgbs := (Below.heap_setCell (w1.alloc (.cells Z 5)) ⟨w.heap.size + 1, 5, none⟩ (.slice (some ⟨w1.heap.size, 0, none⟩) 32 32) w.heap.size (by show w.heap.size ≠ w.heap.size + 1; omega)).trans hgb
  have hgzs := (Below.heap_setCell (w1.alloc (.cells Z 5)) ⟨w.heap.size + 1, 5, none⟩ (.slice (some ⟨w1.heap.size, 0, none⟩) 32 32) w1.heap.size (by have := unhide HS; show w1.heap.size ≠ w.heap.size + 1; omega)).trans hgz
  have hss : ((w1.alloc (.cells Z 5)).setCell ⟨w.heap.size + 1, 5, none⟩ (.slice (some ⟨w1.heap.size, 0, none⟩) 32 32)).heap.size = w1.heap.size + 1 := by simp [World.setCell]
  clear HG HG2 HB
  have HG := hide hgs
  have HG2 := hide hgbs
  have HGZ := hide hgzs
  have HB := hide hbs
  have HS2 := hide hss
  clear hga hgb hgz hgs hgbs hgzs hbs hss
  rw [rounds_succ]; go_wp2_with fail
  generalize World.setCell (World.alloc w1 _) _ _ = w3 at *
  clear y5 f5
  have HS1 := HS
  clear HS
  obtain ⟨a1, ha1⟩ : ∃ a1, a1 = w1.heap.size := ⟨_, rfl⟩
  rw [← ha1] at HG HGZ HS2
  have HS : Hid (w3.heap.size = w.heap.size + 3) := by show w3.heap.size = _; have := unhide HS2; have := unhide HS1; omega
  have HA1 : Hid (a1 = w.heap.size + 2) := by show a1 = _; have := unhide HS1; omega
  clear HS1 HS2 ha1
  have hga : (w3.alloc (.cells Z 5)).heap[w.heap.size + 1]? = some (.cells (rl c (upd (fun _ => none) 4 (some ⟨a1, 0, none⟩)) (upd (fun _ => 0) 4 32) (upd (fun _ => 0) 4 32) false 0 0 false) 43 (0, 0)) := (Below.heap_alloc _ _ _ (by have := unhide HS; omega)).trans (unhide HG)
  have hgb : (w3.alloc (.cells Z 5)).heap[w.heap.size]? = some (.cells z 43 (0, 0)) := (Below.heap_alloc _ _ _ (by have := unhide HS; omega)).trans (unhide HG2)
  have hgz : (w3.alloc (.cells Z 5)).heap[w3.heap.size]? = some (.cells Z 5 (0, 0)) := heap_alloc_new _ _
  have y7 : (w3.alloc (.cells Z 5)).cell? ⟨w.heap.size + 1, 7, none⟩ = some (.slice none 0 0) := cell_of_row _ _ 7 _ _ _ hga
  have f7 : (w3.alloc (.cells Z 5)).frozen? ⟨w.heap.size + 1, 7, none⟩ = false := rl_frz hga 7
  have hbs : Below w.heap.size w ((w3.alloc (.cells Z 5)).setCell ⟨w.heap.size + 1, 7, none⟩ (.slice (some ⟨w3.heap.size, 0, none⟩) 32 32)) := ((unhide HB).alloc (by have := unhide HS; omega) _).setCell (p := ⟨w.heap.size + 1, 7, none⟩) (by show w.heap.size ≤ w.heap.size + 1; omega) _
  have hgs := rl_set hga 6 (by omega) (some ⟨w3.heap.size, 0, none⟩) 32 32
  have hgbs := (Below.heap_setCell (w3.alloc (.cells Z 5)) ⟨w.heap.size + 1, 7, none⟩ (.slice (some ⟨w3.heap.size, 0, none⟩) 32 32) w.heap.size (by show w.heap.size ≠ w.heap.size + 1; omega)).trans hgb
  have hgzs := (Below.heap_setCell (w3.alloc (.cells Z 5)) ⟨w.heap.size + 1, 7, none⟩ (.slice (some ⟨w3.heap.size, 0, none⟩) 32 32) w3.heap.size (by have := unhide HS; show w3.heap.size ≠ w.heap.size + 1; omega)).trans hgz
  have hss : ((w3.alloc (.cells Z 5)).setCell ⟨w.heap.size + 1, 7, none⟩ (.slice (some ⟨w3.heap.size, 0, none⟩) 32 32)).heap.size = w3.heap.size + 1 := by simp [World.setCell]
  have hgas := (Below.heap_setCell (w3.alloc (.cells Z 5)) ⟨w.heap.size + 1, 7, none⟩ (.slice (some ⟨w3.heap.size, 0, none⟩) 32 32) a1 (by have := unhide HA1; show a1 ≠ w.heap.size + 1; omega)).trans ((Below.heap_alloc _ _ _ (by have := unhide HS; have := unhide HA1; omega)).trans (unhide HGZ))
  clear HG HG2 HB HGZ
  have HG := hide hgs
  have HG2 := hide hgbs
  have HGZ := hide hgzs
  have HGA := hide hgas
  have HB := hide hbs
  clear hga hgb hgz hgs hgbs hgzs hgas hbs hss
  rw [rounds_succ]; go_wp2_with fail
  generalize World.setCell (World.alloc w3 _) _ _ = w5 at *
  clear y7 f7
  rw [rounds_succ]; go_wp2_with (first
    | refine wpList_load_row rfl 43 (.tmp 3) rfl (w.heap.size + 1) rfl _ _ _ _ (unhide HG) Try.underlying43 rfl (by kernel_rfl) ?_
    | refine wpList_store_row rfl 43 (.tmp 2) (.tmp 16) rfl w.heap.size _ rfl rfl _ _ (unhide HG2) (by kernel_rfl) (unhide HZZ) (rl_one ..) ?_)
  refine bodyPost_ret (results_c rfl _ _ _ _ _ _ _ rfl (setRow_heap _ _ _ _ _ _ (unhide HG2)) Try.underlying43 rfl (by kernel_rfl)) rfl ?_
  have hrow : ∀ (W : World) (b : Nat), W.heap[b]? = some (.cells Z 5 (0, 0)) → Bytes W (.slice (some ⟨b, 0, none⟩) 32 32) (List.replicate 32 0) := fun W b hb => by
    refine .inr ⟨⟨b, 0, none⟩, 32, rfl, by decide, by unfold maxLen; omega, fun j x hx => ?_⟩
    rw [Addr.add_mid, Nat.zero_add, cell_of_row _ _ _ _ _ _ hb, unhide HZ]
    simpa using hx
  have b0 : ∀ R, Bytes (w5.setRow w.heap.size R) (.slice (some ⟨a1, 0, none⟩) 32 32) (List.replicate 32 0) := fun R => hrow _ a1 ((setRow_other w5 w.heap.size a1 _ (by have := unhide HA1; omega)).trans (unhide HGA))
  have b1 : ∀ R, Bytes (w5.setRow w.heap.size R) (.slice (some ⟨w3.heap.size, 0, none⟩) 32 32) (List.replicate 32 0) := fun R => hrow _ w3.heap.size ((setRow_other w5 w.heap.size w3.heap.size _ (by have := unhide HS; omega)).trans (unhide HGZ))
  have hB0 : Bs (w5.setRow w.heap.size (rl c (upd (upd (fun _ => none) 4 (some ⟨a1, 0, none⟩)) 6 (some ⟨w3.heap.size, 0, none⟩)) (upd (upd (fun _ => 0) 4 32) 6 32) (upd (upd (fun _ => 0) 4 32) 6 32) false 0 0 false)) (fun b => w.heap.size ≤ b) (fun _ => none) (fun _ => 0) (fun _ => 0) (fun _ => []) := fun j _ => ⟨.inl ⟨rfl, rfl⟩, fun h => (h rfl).elim⟩
  exact ⟨_, rfl, ⟨c, _, _, _, false, 0, 0, false, _, rfl, (hB0.put 4 (b0 _) (fun _ b hb => by have := unhide HA1; have e : a1 = b := Option.some.inj hb; omega)).put 6 (b1 _) (fun _ b hb => by have := unhide HS; have e : w3.heap.size = b := Option.some.inj hb; omega), Agree.new c _ rfl⟩, below_setRow (unhide HB) (Nat.le_refl _) _⟩
end Go.Proofs.Ytoabpjdpdcpdlaa

namespace Go.Proofs.Ytoabpjdpdcpdlaa
open Go.RowKit

/-- The program's disk at p holds A, the document's at q holds A2 (its cells cs); the blocks of E are neither's. Since w0 only blocks that it had not have turned. -/
def TW (w0 : World) (p q : Nat) (E : Nat → Prop) (cs : Array Value) (A A2 : AD) (W : World) : Prop :=
  ∃ D v, DiskIs W p D v A ∧ (∀ k, D k → w0.heap.size ≤ k) ∧ ¬ D q ∧ w0.heap.size ≤ q ∧ W.heap[q]? = some (.cells cs 43 (0, 0)) ∧
    RefV W (fun b => ¬ D b ∧ b ≠ q ∧ ¬ E b) A2 cs ∧ (∀ b, E b → ¬ D b ∧ b ≠ q ∧ w0.heap.size ≤ b ∧ b < W.heap.size) ∧ Below w0.heap.size w0 W

/-- The blocks of E stay. -/
def ER (E : Nat → Prop) (W W' : World) : Prop := ∀ b, E b → W'.heap[b]? = W.heap[b]?

theorem RefV.mono {w : World} {B B' : Nat → Prop} {A : AD} {cs : Array Value} (h : RefV w B A cs) (hB : ∀ b, b < w.heap.size → B b → B' b) : RefV w B' A cs := by
  obtain ⟨c, P, N, C, bf, n, k, d, x, e, hb, hA⟩ := h
  exact ⟨c, P, N, C, bf, n, k, d, x, e, fun j hj => ⟨(hb j hj).1, fun hn b hbb => hB b ((hb j hj).1.lt hn b hbb) ((hb j hj).2 hn b hbb)⟩, hA⟩

/-- Whatever leaves the blocks of B alone leaves the document's disk. -/
theorem RefV.kept {w w' : World} {B : Nat → Prop} {A : AD} {cs : Array Value} (h : RefV w B A cs) (hk : ∀ b, b < w.heap.size → B b → w'.heap[b]? = w.heap[b]?) : RefV w' B A cs := by
  obtain ⟨c, P, N, C, bf, n, k, d, x, e, hb, hA⟩ := h
  refine ⟨c, P, N, C, bf, n, k, d, x, e, fun j hj => ⟨?_, (hb j hj).2⟩, hA⟩
  by_cases hn : x j = []
  · have h0 := (hb j hj).1
    rw [hn] at h0 ⊢
    rcases h0 with h0 | ⟨a, c, h1, h2, h3, _⟩
    · exact .inl h0
    · exact .inr ⟨a, c, h1, h2, h3, fun j x hx => by simp at hx⟩
  · exact (hb j hj).1.kept fun b hbb hlt => hk b hlt ((hb j hj).2 hn b hbb)

theorem RefV.shape {w : World} {B : Nat → Prop} {A : AD} {cs : Array Value} (h : RefV w B A cs) : cs.size = 13 ∧ cs.all (fun x => x.oneCell') = true := by
  obtain ⟨c, P, N, C, bf, n, k, d, x, rfl, _⟩ := h
  exact ⟨rfl, rl_one ..⟩

section
variable {w0 W W' : World} {p q : Nat} {E : Nat → Prop} {cs cs' : Array Value} {A A2 A' : AD}

theorem TW.ok (h : TW w0 p q E cs A A2 W) : A.Ok := by obtain ⟨D, v, hD, _⟩ := h; exact hD.ok
theorem TW.below (h : TW w0 p q E cs A A2 W) : Below w0.heap.size w0 W := by obtain ⟨D, v, _, _, _, _, _, _, _, h⟩ := h; exact h
theorem TW.row (h : TW w0 p q E cs A A2 W) : W.heap[q]? = some (.cells cs 43 (0, 0)) := by obtain ⟨D, v, _, _, _, _, h, _⟩ := h; exact h
theorem TW.lt (h : TW w0 p q E cs A A2 W) : ∀ b, E b → b < W.heap.size := by obtain ⟨D, v, _, _, _, _, _, _, h, _⟩ := h; exact fun b hb => (h b hb).2.2.2

/-- More is made; some of it counts to E'. -/
theorem TW.grow (h : TW w0 p q E cs A A2 W) (hb : Below W.heap.size W W') (E' : Nat → Prop) (hE : ∀ b, E' b → E b ∨ (W.heap.size ≤ b ∧ b < W'.heap.size)) : TW w0 p q E' cs A A2 W' := by
  obtain ⟨D, v, hD, h1, h2, h3, h4, h5, h6, h7⟩ := h
  have hq := lt_of_row h4
  have hs := hb.size
  refine ⟨D, v, hD.kept hs fun k hk => hb.block k (hD.lt k hk), h1, h2, h3, row_later h4 hb, (h5.mono ?_).later hb, fun b hbE => ?_, h7.trans (hb.mono h7.size)⟩
  · rintro b hlt ⟨x, y, z⟩
    refine ⟨x, y, fun he => ?_⟩
    rcases hE b he with he | he
    · exact z he
    · omega
  · rcases hE b hbE with he | he
    · obtain ⟨x, y, z, u⟩ := h6 b he; exact ⟨x, y, z, by omega⟩
    · refine ⟨fun hd => ?_, by omega, ?_, he.2⟩
      · have := hD.lt b hd; omega
      · have := h7.size; omega
theorem TW.later (h : TW w0 p q E cs A A2 W) (hb : Below W.heap.size W W') : TW w0 p q E cs A A2 W' := h.grow hb E fun _ h => .inl h
theorem TW.drew (h : TW w0 p q E cs A A2 W) : TW w0 p q E cs A A2 W.drew := h.later (Below.refl _ W).drew
theorem TW.fewer (h : TW w0 p q E cs A A2 W) (E' : Nat → Prop) (hE : ∀ b, E' b → E b) : TW w0 p q E' cs A A2 W := h.grow (Below.refl _ W) E' fun b hb => .inl (hE b hb)
theorem ER.below (h : TW w0 p q E cs A A2 W) (hb : Below W.heap.size W W') : ER E W W' := fun b he => hb.block b (h.lt b he)

/-- Only a block of E turns. -/
theorem TW.scratch (h : TW w0 p q E cs A A2 W) {g : Nat} (hg : E g) (u : Value) (o : Nat) : TW w0 p q E cs A A2 (W.setCell ⟨g, o, none⟩ u) := by
  obtain ⟨D, v, hD, h1, h2, h3, h4, h5, h6, h7⟩ := h
  obtain ⟨x, y, z, l⟩ := h6 g hg
  refine ⟨D, v, hD.setOther (a := ⟨g, o, none⟩) x u, h1, h2, h3, (Below.heap_setCell _ _ _ _ (fun e => y e.symm)).trans h4, h5.kept fun b _ hb => Below.heap_setCell _ _ _ _ (fun e => hb.2.2 (by rw [e]; exact hg)), fun b he => ?_, h7.setCell (p := ⟨g, o, none⟩) z u⟩
  obtain ⟨x, y, z, l⟩ := h6 b he
  exact ⟨x, y, z, by simpa [World.setCell] using l⟩

/-- What the document's disk answered is stored. -/
theorem TW.stored (h : TW w0 p q E cs A A2 W) (hb : Below W.heap.size W W') (D : Nat → Prop) (v : Nat → Value) (hD : DiskIs W p D v A) (h1 : ∀ k, D k → w0.heap.size ≤ k) (h2 : ¬ D q) (h6 : ∀ b, E b → ¬ D b) (hV : RefV W' (fun b => ¬ D b ∧ b ≠ q ∧ ¬ E b) A' cs') : TW w0 p q E cs' A A' (W'.setRow q cs') ∧ ER E W (W'.setRow q cs') := by
  obtain ⟨_, _, _, _, _, h3, h4, _, h6', h7⟩ := h
  have hs := hb.size
  refine ⟨⟨D, v, (hD.kept hs fun k hk => hb.block k (hD.lt k hk)).kept (by simp [World.setRow]) fun k hk => setRow_other _ _ _ _ (fun e => h2 (by rw [← e]; exact hk)), h1, h2, h3, setRow_heap _ _ _ _ _ _ (row_later h4 hb), hV.kept fun b _ hb => setRow_other _ _ _ _ hb.2.1, fun b he => ?_, below_setRow (h7.trans (hb.mono h7.size)) h3 _⟩, fun b he => ?_⟩
  · obtain ⟨x, y, z, l⟩ := h6' b he
    refine ⟨h6 b he, y, z, ?_⟩
    have : (W'.setRow q cs').heap.size = W'.heap.size := by simp [World.setRow]
    omega
  · obtain ⟨x, y, z, l⟩ := h6' b he
    rw [setRow_other _ _ _ _ y]; exact hb.block b l
end
end Go.Proofs.Ytoabpjdpdcpdlaa

namespace Go.Proofs.Ytoabpjdpdcpdlaa
open Go.RowKit

/-- What the document's disk answered, cs', can be stored at q; then the two disks are side by side anew. -/
def Stored (w0 : World) (p q : Nat) (E : Nat → Prop) (A A' : AD) (W : World) (cs' : Array Value) (w' : World) : Prop :=
  cs'.size = 13 ∧ (storeCells ⟨q, 0, none⟩ cs'.toList 0).run Try.prog w' = .ok () (w'.setRow q cs') ∧ TW w0 p q E cs' A A' (w'.setRow q cs') ∧ ER E W (w'.setRow q cs') ∧ ER E W w'

section
variable {w0 W : World} {p q : Nat} {E : Nat → Prop} {cs : Array Value} {A A2 A' : AD}

theorem RefV.move {w w' : World} {B B' : Nat → Prop} {A : AD} {cs : Array Value} (h : RefV w B A cs) (hk : ∀ b, b < w.heap.size → B b → w'.heap[b]? = w.heap[b]? ∧ B' b) : RefV w' B' A cs := by
  have h1 : RefV w (fun b => B b ∧ B' b) A cs := h.mono fun b hlt hb => ⟨hb, (hk b hlt hb).2⟩
  have h2 : RefV w' (fun b => B b ∧ B' b) A cs := h1.kept fun b hlt hb => (hk b hlt hb.1).1
  exact h2.mono fun b _ hb => hb.2

theorem TW.load (h : TW w0 p q E cs A A2 W) : (loadVar 43 ⟨q, 0, none⟩).run Try.prog W = .ok (.agg cs) W := by
  have hr := h.row
  obtain ⟨_, _, _, _, _, _, _, h5, _⟩ := h
  have hs := h5.shape.1
  exact run_loadVar_row W q _ _ cs _ _ hr Try.underlying43 rfl (by rw [hs]; kernel_rfl)

theorem TW.disk (h : TW w0 p q E cs A A2 W) : ∃ D v, DiskIs W p D v A ∧ (∀ b, E b → ¬ D b) ∧ ∀ A' w', Now D p A' W w' → TW w0 p q E cs A' A2 w' ∧ ER E W w' := by
  obtain ⟨D, v, hD, h1, h2, h3, h4, h5, h6, h7⟩ := h
  refine ⟨D, v, hD, fun b he => (h6 b he).1, fun A' w' hN => ?_⟩
  obtain ⟨D', v', hD', hS⟩ := hN
  have hq := lt_of_row h4
  have hs := hS.size
  have h7s := h7.size
  refine ⟨⟨D', v', hD', fun k hk => ?_, hS.notOwn hq h2, h3, (hS.block q hq h2).trans h4, h5.move fun b hlt hb => ⟨hS.block b hlt hb.1, hS.notOwn hlt hb.1, hb.2⟩, fun b he => ?_, h7.trans (hS.below (by omega) h1)⟩, fun b he => ?_⟩
  · rcases hS.own k hk with h | h
    · exact h1 k h
    · omega
  · obtain ⟨x, y, z, l⟩ := h6 b he
    exact ⟨hS.notOwn l x, y, z, by omega⟩
  · obtain ⟨x, y, z, l⟩ := h6 b he
    exact hS.block b l x

theorem TW.ref (h : TW w0 p q E cs A A2 W) : ∃ B, RefV W B A2 cs ∧ (∀ b, W.heap.size ≤ b → B b) ∧ ∀ A' cs' w', RefV w' B A' cs' → Below W.heap.size W w' → Stored w0 p q E A A' W cs' w' := by
  have h0 := h
  obtain ⟨D, v, hD, h1, h2, h3, h4, h5, h6, h7⟩ := h
  refine ⟨_, h5, fun b hb => ⟨fun hd => ?_, ?_, fun he => ?_⟩, fun A' cs' w' hV hb => ⟨hV.shape.1, ?_, (h0.stored hb D v hD h1 h2 (fun b he => (h6 b he).1) hV).1, (h0.stored hb D v hD h1 h2 (fun b he => (h6 b he).1) hV).2, ER.below h0 hb⟩⟩
  · have := hD.lt b hd; omega
  · have := lt_of_row h4; omega
  · have := (h6 b he).2.2.2; omega
  · obtain ⟨z1, z2⟩ := hV.shape
    have z3 := h5.shape.1
    have := run_storeCells_from (P := Try.prog) q _ cs'.toList 0 cs w' (row_later h4 hb) (by simp; omega) (fun v hv => (Array.all_eq_true_iff_forall_mem.1 z2) v (by simpa using hv))
    simpa using this

theorem TW.refB (h : TW w0 p q E cs A A2 W) {f : FuncId} {err : Int} {s : Int} {bs : List UInt8} (hf : RefB f A2 A' err s bs) (a : Option Addr) (m c : Nat) (hu : Bytes W (.slice a m c) bs) : Calls Try.prog f #[.agg cs, .int .i64 s, .slice a m c] W fun e w' => ∃ cs', e = .returned (.tuple #[.agg cs', .int .i64 err]) ∧ Stored w0 p q E A A' W cs' w' := by
  obtain ⟨B, h1, h2, h3⟩ := h.ref
  exact (hf W B cs a m c h1 h2 hu).mono fun e w' ⟨cs', he, hV, hb⟩ => ⟨cs', he, h3 A' cs' w' hV hb⟩
theorem TW.dskB (h : TW w0 p q E cs A A2 W) {f : FuncId} {err : Int} {s : Int} {bs : List UInt8} (hf : DskB f A A' err s bs) (a : Option Addr) (m c : Nat) (hu : Bytes W (.slice a m c) bs) (hn : bs ≠ [] → ∀ k, (Value.slice a m c).ownBlock = some k → E k) : Calls Try.prog f #[.pointer (some ⟨p, 0, none⟩), .int .i64 s, .slice a m c] W fun e w' => e = .returned (.int .i64 err) ∧ TW w0 p q E cs A' A2 w' ∧ ER E W w' := by
  obtain ⟨D, v, hD, hE, hN⟩ := h.disk
  exact (hf W D v p a m c hD hu (fun hb k hk => hE k (hn hb k hk))).mono fun e w' ⟨he, hn⟩ => ⟨he, hN A' w' hn⟩

theorem TW.refS (h : TW w0 p q E cs A A2 W) {f : FuncId} {err : Int} {s : Int} (hf : RefS f A2 A' err s) : Calls Try.prog f #[.agg cs, .int .i64 s] W fun e w' => ∃ cs', e = .returned (.tuple #[.agg cs', .int .i64 err]) ∧ Stored w0 p q E A A' W cs' w' := by
  obtain ⟨B, h1, h2, h3⟩ := h.ref
  exact (hf W B cs h1 h2).mono fun e w' ⟨cs', he, hV, hb⟩ => ⟨cs', he, h3 A' cs' w' hV hb⟩
theorem TW.dskS (h : TW w0 p q E cs A A2 W) {f : FuncId} {err : Int} {s : Int} (hf : DskS f A A' err s) : Calls Try.prog f #[.pointer (some ⟨p, 0, none⟩), .int .i64 s] W fun e w' => e = .returned (.int .i64 err) ∧ TW w0 p q E cs A' A2 w' ∧ ER E W w' := by
  obtain ⟨D, v, hD, hE, hN⟩ := h.disk
  exact (hf W D v p hD).mono fun e w' ⟨he, hn⟩ => ⟨he, hN A' w' hn⟩

theorem TW.refT (h : TW w0 p q E cs A A2 W) {f : FuncId} {err : Int} {s m : Int} (hf : RefT f A2 A' err s m) : Calls Try.prog f #[.agg cs, .int .i64 s, .int .i64 m] W fun e w' => ∃ cs', e = .returned (.tuple #[.agg cs', .int .i64 err]) ∧ Stored w0 p q E A A' W cs' w' := by
  obtain ⟨B, h1, h2, h3⟩ := h.ref
  exact (hf W B cs h1 h2).mono fun e w' ⟨cs', he, hV, hb⟩ => ⟨cs', he, h3 A' cs' w' hV hb⟩
theorem TW.dskT (h : TW w0 p q E cs A A2 W) {f : FuncId} {err : Int} {s m : Int} (hf : DskT f A A' err s m) : Calls Try.prog f #[.pointer (some ⟨p, 0, none⟩), .int .i64 s, .int .i64 m] W fun e w' => e = .returned (.int .i64 err) ∧ TW w0 p q E cs A' A2 w' ∧ ER E W w' := by
  obtain ⟨D, v, hD, hE, hN⟩ := h.disk
  exact (hf W D v p hD).mono fun e w' ⟨he, hn⟩ => ⟨he, hN A' w' hn⟩

theorem TW.refZ (h : TW w0 p q E cs A A2 W) {f : FuncId} {err : Int}  (hf : RefZ f A2 A' err) : Calls Try.prog f #[.agg cs] W fun e w' => ∃ cs', e = .returned (.tuple #[.agg cs', .int .i64 err]) ∧ Stored w0 p q E A A' W cs' w' := by
  obtain ⟨B, h1, h2, h3⟩ := h.ref
  exact (hf W B cs h1 h2).mono fun e w' ⟨cs', he, hV, hb⟩ => ⟨cs', he, h3 A' cs' w' hV hb⟩
theorem TW.dskZ (h : TW w0 p q E cs A A2 W) {f : FuncId} {err : Int}  (hf : DskZ f A A' err) : Calls Try.prog f #[.pointer (some ⟨p, 0, none⟩)] W fun e w' => e = .returned (.int .i64 err) ∧ TW w0 p q E cs A' A2 w' ∧ ER E W w' := by
  obtain ⟨D, v, hD, hE, hN⟩ := h.disk
  exact (hf W D v p hD).mono fun e w' ⟨he, hn⟩ => ⟨he, hN A' w' hn⟩

theorem TW.refF (h : TW w0 p q E cs A A2 W) {f : FuncId} {s m : Int} (hf : RefF f A2 A' s m) : Calls Try.prog f #[.agg cs, .int .i64 s, .int .i64 m] W fun e w' => ∃ cs', e = .returned (.agg cs') ∧ Stored w0 p q E A A' W cs' w' := by
  obtain ⟨B, h1, h2, h3⟩ := h.ref
  exact (hf W B cs h1 h2).mono fun e w' ⟨cs', he, hV, hb⟩ => ⟨cs', he, h3 A' cs' w' hV hb⟩
theorem TW.dskF (h : TW w0 p q E cs A A2 W) {f : FuncId} {s m : Int} (hf : DskF f A A' s m) : Calls Try.prog f #[.pointer (some ⟨p, 0, none⟩), .int .i64 s, .int .i64 m] W fun e w' => e = .returned (.tuple #[]) ∧ TW w0 p q E cs A' A2 w' ∧ ER E W w' := by
  obtain ⟨D, v, hD, hE, hN⟩ := h.disk
  exact (hf W D v p hD).mono fun e w' ⟨he, hn⟩ => ⟨he, hN A' w' hn⟩

theorem TW.refC (h : TW w0 p q E cs A A2 W) {f : FuncId} {e0 e1 e2 e3 : Int} (hf : RefC f A2 A' e0 e1 e2 e3) : Calls Try.prog f #[.agg cs, .agg #[.int .i64 e0, .int .i64 e1, .int .i64 e2, .int .i64 e3]] W fun e w' => ∃ cs', e = .returned (.agg cs') ∧ Stored w0 p q E A A' W cs' w' := by
  obtain ⟨B, h1, h2, h3⟩ := h.ref
  exact (hf W B cs h1 h2).mono fun e w' ⟨cs', he, hV, hb⟩ => ⟨cs', he, h3 A' cs' w' hV hb⟩
theorem TW.dskC (h : TW w0 p q E cs A A2 W) {f : FuncId} {e0 e1 e2 e3 : Int} (hf : DskC f A A' e0 e1 e2 e3) : Calls Try.prog f #[.pointer (some ⟨p, 0, none⟩), .agg #[.int .i64 e0, .int .i64 e1, .int .i64 e2, .int .i64 e3]] W fun e w' => e = .returned (.tuple #[]) ∧ TW w0 p q E cs A' A2 w' ∧ ER E W w' := by
  obtain ⟨D, v, hD, hE, hN⟩ := h.disk
  exact (hf W D v p hD).mono fun e w' ⟨he, hn⟩ => ⟨he, hN A' w' hn⟩

theorem tRead (h : TW w0 p q E cs A A2 W) (s : Int) : Calls Try.prog 48 #[.pointer (some ⟨p, 0, none⟩), .int .i64 s] W fun e w' => ∃ r, e = .returned r ∧ FreshO W w' r (rd A s) := by
  obtain ⟨D, v, hD, _⟩ := h.disk
  exact dRead hD s
theorem tHead (h : TW w0 p q E cs A A2 W) (s : Int) : Calls Try.prog 30 #[.pointer (some ⟨p, 0, none⟩), .int .i64 s] W fun e w' => ∃ r, e = .returned r ∧ FreshO W w' r (hdOf A s) := by
  obtain ⟨D, v, hD, _⟩ := h.disk
  exact dHead hD s
theorem tFree (h : TW w0 p q E cs A A2 W) : Calls Try.prog 50 #[.pointer (some ⟨p, 0, none⟩)] W fun e w' => e = .returned (.int .i64 (frOf A)) ∧ w' = W := by
  obtain ⟨D, v, hD, _⟩ := h.disk
  exact dFree hD
theorem tDead (h : TW w0 p q E cs A A2 W) : Calls Try.prog 40 #[.pointer (some ⟨p, 0, none⟩)] W fun e w' => e = .returned (.bool A.dead) ∧ w' = W := by
  obtain ⟨D, v, hD, _⟩ := h.disk
  exact dead_any hD
theorem uRead (h : TW w0 p q E cs A A W) (s : Int) : Calls Try.prog 49 #[.agg cs, .int .i64 s] W fun e w' => ∃ r, e = .returned r ∧ Bytes w' r (rd A s) ∧ Below W.heap.size W w' := by
  obtain ⟨B, h1, _⟩ := h.ref
  exact mRead h1 h.ok s
theorem uHead (h : TW w0 p q E cs A A W) (s : Int) : Calls Try.prog 41 #[.agg cs, .int .i64 s] W fun e w' => ∃ r, e = .returned r ∧ Bytes w' r (hdOf A s) ∧ Below W.heap.size W w' := by
  obtain ⟨B, h1, _⟩ := h.ref
  exact mHead h1 h.ok s
theorem uFree (h : TW w0 p q E cs A A W) : Calls Try.prog 51 #[.agg cs] W fun e w' => e = .returned (.int .i64 (frOf A)) ∧ Below W.heap.size W w' := by
  obtain ⟨B, h1, _⟩ := h.ref
  exact mFree h1 h.ok
theorem TW.deadCell (h : TW w0 p q E cs A A2 W) : W.cell? ⟨q, 12, none⟩ = some (.bool A2.dead) := by
  obtain ⟨B, h1, _⟩ := h.ref
  exact h1.deadCell h.row
end

theorem arr13 {cs : Array Value} (h : cs.size = 13) : ∃ v0 v1 v2 v3 v4 v5 v6 v7 v8 v9 v10 v11 v12, cs = #[v0, v1, v2, v3, v4, v5, v6, v7, v8, v9, v10, v11, v12] := by
  obtain ⟨l⟩ := cs
  match l, h with
  | [v0, v1, v2, v3, v4, v5, v6, v7, v8, v9, v10, v11, v12], _ => exact ⟨v0, v1, v2, v3, v4, v5, v6, v7, v8, v9, v10, v11, v12, rfl⟩

theorem TW.size {w0 W : World} {p q : Nat} {E : Nat → Prop} {cs : Array Value} {A A2 : AD} (h : TW w0 p q E cs A A2 W) : cs.size = 13 := by
  obtain ⟨_, _, _, _, _, _, _, h5, _⟩ := h
  exact h5.shape.1

/-- A byte of an owned row, read and written. -/
theorem own_at_int {W : World} {a : Option Addr} {n c : Nat} {bs : List UInt8} (h : W.ownsRow 0 5 1 (.slice a n c) bs.length (bs.map bv)) (hl : bs.length = n) {k : Nat} (hk : k < n) : ∃ b x, a = some ⟨b, 0, none⟩ ∧ 0 ≤ x ∧ x < 256 ∧ W.cell? ⟨b, k, none⟩ = some (.int .u8 x) ∧ W.frozen? ⟨b, k, none⟩ = false ∧
    ∀ y : Int, 0 ≤ y → y < 256 → (W.setCell ⟨b, k, none⟩ (.int .u8 y)).ownsRow 0 5 1 (.slice a n c) (bs.set k (UInt8.ofNat y.toNat)).length ((bs.set k (UInt8.ofNat y.toNat)).map bv) := by
  have h0 := h
  subst hl
  rcases h.2 with ⟨hv, hn⟩ | ⟨g, cap, cur, hv, hb0, hg, hn, hm, hcs, htk⟩
  · omega
  · simp only [Value.slice.injEq] at hv
    obtain ⟨rfl, _, rfl⟩ := hv
    have hx : (bs.map bv)[k]? = some (bv bs[k]) := by rw [List.getElem?_map, List.getElem?_eq_getElem hk]; rfl
    have hc := h0.cells (g := g) rfl k _ hx
    refine ⟨g, (bs[k].toNat : Int), rfl, by omega, by have := bs[k].toNat_lt; omega, ?_, frozen_of_row _ _ _ _ _ hg, fun y h1 h2 => ⟨by simp, .inr ⟨g, c, cur.setIfInBounds k (.int .u8 y), by simp, hb0, ?_, by simpa using hn, hm, by simpa using hcs, ?_⟩⟩⟩
    · have hc' : W.cell? ⟨g, k, none⟩ = some (bv bs[k]) := by simpa [Addr.add_mid] using hc
      exact hc'
    · rw [heap_setCell_same _ _ _ _ _ _ hg]
    · have e : (Value.int .u8 y) = bv (UInt8.ofNat y.toNat) := by
        unfold bv
        rw [UInt8.toNat_ofNat']
        congr 1
        omega
      simp only [Nat.mul_one, List.length_set] at htk ⊢
      rw [Array.toList_setIfInBounds, e, List.map_set, ← htk, List.take_set]
end Go.Proofs.Ytoabpjdpdcpdlaa
