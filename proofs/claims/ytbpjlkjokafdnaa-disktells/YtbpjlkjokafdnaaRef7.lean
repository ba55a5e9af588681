/- What the functions of the document's own disk (foremanref01) do: Append. No statement of the seat is proved here. -/
import Derived.Test.YtbpjlkjokafdnaaRef6
namespace Go.Proofs.Ytbpjlkjokafdnaa
open Go.RowKit

section
variable (c : Int) (P : Nat → Option Addr) (N C : Nat → Nat) (bf : Bool) (n k : Int) (w : World)

set_option maxHeartbeats 4000000 in
theorem ref_append_killLt0 (t : Nat) (n' : Int) (hk : Kills c P N C bf n (t : Int) n' true) (x : Nat → List UInt8) (hb : ∀ j, j < 4 → Bytes w (.slice (P j) (N j) (C j)) (x j)) (hl : (x 0).length + (x 1).length ≤ 1048576 ∧ (x 2).length + (x 3).length ≤ 1048576) (hc : 0 ≤ c ∧ c ≤ 1048576) (a : Option Addr) (m q : Nat) (bs : List UInt8) (hu : Bytes w (.slice a m q) bs) (hbl : bs.length = m) (hmq : m ≤ q) (hm : ((x 0).length + (x 1).length : Nat) + ((x 2).length + (x 3).length : Nat) + (m : Int) ≤ c) (ht : t < m) :
    Calls Try.prog 30 #[.agg (rl c P N C bf n (t : Int) false), .int .i64 0, .slice a m q] w fun e w' => ∃ ra rc, e = .returned (.tuple #[.agg (rl c (upd P 1 ra) (upd N 1 (x 1 ++ bs.take t).length) (upd C 1 rc) bf n' (t : Int) true), .int .i64 3]) ∧ Bytes w' (.slice ra (x 1 ++ bs.take t).length rc) (x 1 ++ bs.take t) ∧ (∀ k, (Value.slice ra (x 1 ++ bs.take t).length rc).ownBlock = some k → w.heap.size ≤ k) ∧ Below w.heap.size w w' := by
  have hgt : ¬ (m : Int) > c - ((x 0).length + (x 1).length : Nat) - ((x 2).length + (x 3).length : Nat) := by omega
  obtain ⟨fr, hfr⟩ : ∃ fr : Int, fr = c - ((x 0).length + (x 1).length : Nat) - ((x 2).length + (x 3).length : Nat) := ⟨_, rfl⟩
  rw [← hfr] at hgt
  have HFR := hide hfr
  have HK := hide hk
  have HU := hide hu
  have HXL : Hid ((x 1).length + bs.length ≤ 140737488355328) := by show _ ≤ _; omega
  have hmq' : (m : Int) ≤ (q : Int) := by omega
  have hm0 : (0 : Int) ≤ (m : Int) := by omega
  have htm : t ≤ m := by omega
  have HTM := hide htm
  have HBL := hide hbl
  have HXT : Hid ((x 1).length + (bs.take t).length ≤ 140737488355328) := by
    show _ ≤ _
    have := unhide HXL
    rw [List.length_take]; omega
  have ht0 : (0 : Int) ≤ (t : Int) := by omega
  have htq : (t : Int) ≤ (q : Int) := by omega
  have htl : (t : Int) < (m : Int) := by omega
  obtain ⟨ln, hln⟩ : ∃ ln, ln = (x 1 ++ bs.take t).length := ⟨_, rfl⟩
  have HLN := hide hln
  rw [← hln]
  clear hln
  clear hfr hm hk hu
  have HB := hide hb
  have HHL := hide hl
  have HHC := hide hc
  clear hb hl hc
  go_enter Try.func30, Try.ntmps30
  unfold rl
  go_wp2_with fail
  generalize hww : World.alloc (World.alloc w _) _ = w1
  have hg1 : w1.heap[w.heap.size]? = some (.cells (rl c P N C bf n (t : Int) false) 33 (0, 0)) := by rw [← hww, Below.heap_alloc _ _ _ (by simp)]; exact heap_alloc_new w _
  have hg2 : ∃ z, z.size = 13 ∧ w1.heap[w.heap.size + 1]? = some (.cells z 33 (0, 0)) := ⟨_, rfl, by rw [← hww]; exact heap_last _ _ _ (by simp)⟩
  have hb1 : Below w.heap.size w w1 := by rw [← hww]; exact ((Below.refl _ w).alloc (Nat.le_refl _) _).alloc (by simp) _
  clear hww
  refine (ref_free c P N C bf n (t : Int) w1 x (fun j hj => (unhide HB j hj).kept fun k' _ hk' => hb1.block k' hk') (unhide HHL) (unhide HHC)).mono ?_
  rintro e w2 ⟨rfl, hb2⟩
  rw [← unhide HFR]
  obtain ⟨z, hz, hg2⟩ := hg2
  have hg1' := row_later hg1 hb2
  have hg2' := row_later hg2 hb2
  have hbb := hb1.trans (hb2.mono hb1.size)
  obtain ⟨y0, y1, y2, y3, y4, y5, y6, y7, y8, y9, y10, y11, y12⟩ := row13 hg1'
  have HG1 := hide hg1'
  have HG2 := hide hg2'
  have HBB := hide hbb
  have HZ := hide hz
  clear hg1 hg2 hb1 hb2 hg1' hg2' hz hbb
  go_wp2_with fail
  refine (unhide HK _).mono ?_
  rintro e w3 ⟨rfl, hb3⟩
  clear y0 y1 y2 y3 y4 y5 y6 y7 y8 y9 y10 y11 y12
  have hg1' := row_later (unhide HG1) hb3
  have hg2' := row_later (unhide HG2) hb3
  have hbb := (unhide HBB).trans (hb3.mono (unhide HBB).size)
  clear HG1 HG2 HBB
  have HG1 := hide hg1'
  clear hg1' hb3
  go_upto_region 9 with (refine wpList_store_row rfl 33 (.tmp 3) (.tmp 29) rfl w.heap.size (rl c P N C bf n' (t : Int) true) rfl rfl _ _ (unhide HG1) (by kernel_rfl) rfl (rl_one ..) ?_)
  have HG2 := hide ((setRow_other w3 w.heap.size (w.heap.size + 1) (rl c P N C bf n' (t : Int) true) (by omega)).trans hg2')
  have hg1' := setRow_heap w3 w.heap.size _ (rl c P N C bf n' (t : Int) true) _ _ (unhide HG1)
  have HBB := hide (below_setRow hbb (Nat.le_refl w.heap.size) (rl c P N C bf n' (t : Int) true))
  generalize hw4 : w3.setRow _ _ = w4
  rw [hw4] at HG2 hg1' HBB
  obtain ⟨y0, y1, y2, y3, y4, y5, y6, y7, y8, y9, y10, y11, y12⟩ := row13 hg1'
  have fz := rl_frz hg1' 2
  have hgl : w.heap.size < w4.heap.size := lt_of_row hg1'
  clear HG1
  have HG1 := hide hg1'
  clear hg1' hg2' hbb hw4
  have HUB : Hid (Bytes w4 (.slice a t q) (bs.take t)) := (((unhide HU).take (unhide HTM) (unhide HBL))).kept fun k' _ hk' => (unhide HBB).block k' hk'
  have HXB : Hid (Bytes w4 (.slice (P 1) (N 1) (C 1)) (x 1)) := (unhide HB 1 (by omega)).kept fun k' _ hk' => (unhide HBB).block k' hk'
  go_upto_region 11 with fail
  go_region_with (first
    | (go_at_call 59; refine (join_any _ _ (x 1) (bs.take t) _ (by exact (unhide HXB).kept (fun _ _ _ => rfl)) (by exact (unhide HUB).kept (fun _ _ _ => rfl)) (unhide HXT)).mono ?_; rintro e w5 ⟨r, rfl, hF⟩; obtain ⟨ra, rc, hr, _⟩ := hF.1.form; rw [← unhide HLN] at hr; subst hr; have yl := (hF.2.2.cell (p := ⟨w.heap.size, 2, none⟩) hgl).trans y2; have fz2 := (World.frozen?_of_block (a := ⟨w.heap.size, 2, none⟩) (hF.2.2.block w.heap.size hgl)).trans fz; have HF := hide hF; clear hF))
  have hg1' : w5.heap[w.heap.size]? = _ := (unhide HF).2.2.block w.heap.size hgl |>.trans (unhide HG1)
  have hg2' : w5.heap[w.heap.size + 1]? = _ := (unhide HF).2.2.block (w.heap.size + 1) (lt_of_row (unhide HG2)) |>.trans (unhide HG2)
  have hsz : w4.drew.heap.size = w4.heap.size := rfl
  have hg1s : (w5.setCell ⟨w.heap.size, 2, none⟩ (.slice ra ln rc)).heap[w.heap.size]? = some (.cells (rl c (upd P 1 ra) (upd N 1 ln) (upd C 1 rc) bf n' (t : Int) true) 33 (0, 0)) := rl_set hg1' 1 (by omega) ra ln rc
  have hg2s := (Below.heap_setCell w5 ⟨w.heap.size, 2, none⟩ (.slice ra ln rc) (w.heap.size + 1) (by show w.heap.size + 1 ≠ w.heap.size; omega)).trans hg2'
  have hbb : Below w.heap.size w w5 := (unhide HBB).drew.trans ((unhide HF).2.2.mono (Nat.le_of_lt hgl))
  have hbb2 := hbb.setCell (p := ⟨w.heap.size, 2, none⟩) (Nat.le_refl w.heap.size) (.slice ra ln rc)
  have hBf : Bytes (w5.setCell ⟨w.heap.size, 2, none⟩ (.slice ra ln rc)) (.slice ra ln rc) (x 1 ++ bs.take t) := (unhide HF).1.kept fun k' hk' _ => Below.heap_setCell _ _ _ _ (by have := ((unhide HF).2.1 k' hk').1; show k' ≠ w.heap.size; omega)
  have HOB : Hid (∀ k', (Value.slice ra ln rc).ownBlock = some k' → w.heap.size + 1 < k') := fun k' hk' => by have := ((unhide HF).2.1 k' hk').1; have := lt_of_row (unhide HG2); omega
  generalize w5.setCell _ _ = w6 at *
  have HG1s := hide hg1s
  have HG2s := hide hg2s
  have HB2 := hide hbb2
  have HBF := hide hBf
  clear hg1' hg2' hsz hg1s hg2s hbb hbb2 hBf yl fz2 fz hgl HF HG1 HG2 HBB HUB HXB y0 y1 y2 y3 y4 y5 y6 y7 y8 y9 y10 y11 y12
  go_wp2_with (first
    | refine wpList_load_row rfl 33 (.tmp 3) rfl w.heap.size rfl _ _ _ _ (unhide HG1s) Try.underlying33 rfl (by kernel_rfl) ?_
    | refine wpList_store_row rfl 33 (.tmp 6) (.tmp 56) rfl (w.heap.size + 1) _ rfl rfl _ _ (unhide HG2s) (by kernel_rfl) (unhide HZ) (rl_one ..) ?_)
  refine bodyPost_ret (results_ct rfl _ _ _ _ _ _ _ rfl (setRow_heap _ _ _ _ _ _ (unhide HG2s)) Try.underlying33 rfl (by kernel_rfl)) rfl ?_
  exact ⟨ra, rc, rfl, (unhide HBF).kept fun k' hk' _ => setRow_other _ _ _ _ (by have := unhide HOB k' hk'; omega), fun k' hk' => by have := unhide HOB k' hk'; omega, below_setRow (unhide HB2) (by omega) _⟩

set_option maxHeartbeats 4000000 in
theorem ref_append_killGe0 (n' : Int) (hk : Kills c P N C bf n k n' true) (x : Nat → List UInt8) (hb : ∀ j, j < 4 → Bytes w (.slice (P j) (N j) (C j)) (x j)) (hl : (x 0).length + (x 1).length ≤ 1048576 ∧ (x 2).length + (x 3).length ≤ 1048576) (hc : 0 ≤ c ∧ c ≤ 1048576) (a : Option Addr) (m q : Nat) (bs : List UInt8) (hu : Bytes w (.slice a m q) bs) (hbl : bs.length = m) (hmq : m ≤ q) (hm : ((x 0).length + (x 1).length : Nat) + ((x 2).length + (x 3).length : Nat) + (m : Int) ≤ c) (hkm : (m : Int) ≤ k) :
    Calls Try.prog 30 #[.agg (rl c P N C bf n k false), .int .i64 0, .slice a m q] w fun e w' => ∃ ra rc, e = .returned (.tuple #[.agg (rl c (upd P 1 ra) (upd N 1 (x 1 ++ bs).length) (upd C 1 rc) bf n' k true), .int .i64 3]) ∧ Bytes w' (.slice ra (x 1 ++ bs).length rc) (x 1 ++ bs) ∧ (∀ k, (Value.slice ra (x 1 ++ bs).length rc).ownBlock = some k → w.heap.size ≤ k) ∧ Below w.heap.size w w' := by
  have hgt : ¬ (m : Int) > c - ((x 0).length + (x 1).length : Nat) - ((x 2).length + (x 3).length : Nat) := by omega
  obtain ⟨fr, hfr⟩ : ∃ fr : Int, fr = c - ((x 0).length + (x 1).length : Nat) - ((x 2).length + (x 3).length : Nat) := ⟨_, rfl⟩
  rw [← hfr] at hgt
  have HFR := hide hfr
  have HK := hide hk
  have HU := hide hu
  have HXL : Hid ((x 1).length + bs.length ≤ 140737488355328) := by show _ ≤ _; omega
  have hmq' : (m : Int) ≤ (q : Int) := by omega
  have hm0 : (0 : Int) ≤ (m : Int) := by omega
  have htl : ¬ k < (m : Int) := by omega
  obtain ⟨ln, hln⟩ : ∃ ln, ln = (x 1 ++ bs).length := ⟨_, rfl⟩
  have HLN := hide hln
  rw [← hln]
  clear hln
  clear hfr hm hk hu
  have HB := hide hb
  have HHL := hide hl
  have HHC := hide hc
  clear hb hl hc
  go_enter Try.func30, Try.ntmps30
  unfold rl
  go_wp2_with fail
  generalize hww : World.alloc (World.alloc w _) _ = w1
  have hg1 : w1.heap[w.heap.size]? = some (.cells (rl c P N C bf n k false) 33 (0, 0)) := by rw [← hww, Below.heap_alloc _ _ _ (by simp)]; exact heap_alloc_new w _
  have hg2 : ∃ z, z.size = 13 ∧ w1.heap[w.heap.size + 1]? = some (.cells z 33 (0, 0)) := ⟨_, rfl, by rw [← hww]; exact heap_last _ _ _ (by simp)⟩
  have hb1 : Below w.heap.size w w1 := by rw [← hww]; exact ((Below.refl _ w).alloc (Nat.le_refl _) _).alloc (by simp) _
  clear hww
  refine (ref_free c P N C bf n k w1 x (fun j hj => (unhide HB j hj).kept fun k' _ hk' => hb1.block k' hk') (unhide HHL) (unhide HHC)).mono ?_
  rintro e w2 ⟨rfl, hb2⟩
  rw [← unhide HFR]
  obtain ⟨z, hz, hg2⟩ := hg2
  have hg1' := row_later hg1 hb2
  have hg2' := row_later hg2 hb2
  have hbb := hb1.trans (hb2.mono hb1.size)
  obtain ⟨y0, y1, y2, y3, y4, y5, y6, y7, y8, y9, y10, y11, y12⟩ := row13 hg1'
  have HG1 := hide hg1'
  have HG2 := hide hg2'
  have HBB := hide hbb
  have HZ := hide hz
  clear hg1 hg2 hb1 hb2 hg1' hg2' hz hbb
  go_wp2_with fail
  refine (unhide HK _).mono ?_
  rintro e w3 ⟨rfl, hb3⟩
  clear y0 y1 y2 y3 y4 y5 y6 y7 y8 y9 y10 y11 y12
  have hg1' := row_later (unhide HG1) hb3
  have hg2' := row_later (unhide HG2) hb3
  have hbb := (unhide HBB).trans (hb3.mono (unhide HBB).size)
  clear HG1 HG2 HBB
  have HG1 := hide hg1'
  clear hg1' hb3
  go_upto_region 9 with (refine wpList_store_row rfl 33 (.tmp 3) (.tmp 29) rfl w.heap.size (rl c P N C bf n' k true) rfl rfl _ _ (unhide HG1) (by kernel_rfl) rfl (rl_one ..) ?_)
  have HG2 := hide ((setRow_other w3 w.heap.size (w.heap.size + 1) (rl c P N C bf n' k true) (by omega)).trans hg2')
  have hg1' := setRow_heap w3 w.heap.size _ (rl c P N C bf n' k true) _ _ (unhide HG1)
  have HBB := hide (below_setRow hbb (Nat.le_refl w.heap.size) (rl c P N C bf n' k true))
  generalize hw4 : w3.setRow _ _ = w4
  rw [hw4] at HG2 hg1' HBB
  obtain ⟨y0, y1, y2, y3, y4, y5, y6, y7, y8, y9, y10, y11, y12⟩ := row13 hg1'
  have fz := rl_frz hg1' 2
  have hgl : w.heap.size < w4.heap.size := lt_of_row hg1'
  clear HG1
  have HG1 := hide hg1'
  clear hg1' hg2' hbb hw4
  have HUB : Hid (Bytes w4 (.slice a m q) bs) := ((unhide HU)).kept fun k' _ hk' => (unhide HBB).block k' hk'
  have HXB : Hid (Bytes w4 (.slice (P 1) (N 1) (C 1)) (x 1)) := (unhide HB 1 (by omega)).kept fun k' _ hk' => (unhide HBB).block k' hk'
  go_upto_region 11 with fail
  go_region_with (first
    | (go_at_call 59; refine (join_any _ _ (x 1) (bs) _ (by exact (unhide HXB).kept (fun _ _ _ => rfl)) (by exact (unhide HUB).kept (fun _ _ _ => rfl)) (unhide HXL)).mono ?_; rintro e w5 ⟨r, rfl, hF⟩; obtain ⟨ra, rc, hr, _⟩ := hF.1.form; rw [← unhide HLN] at hr; subst hr; have yl := (hF.2.2.cell (p := ⟨w.heap.size, 2, none⟩) hgl).trans y2; have fz2 := (World.frozen?_of_block (a := ⟨w.heap.size, 2, none⟩) (hF.2.2.block w.heap.size hgl)).trans fz; have HF := hide hF; clear hF))
  have hg1' : w5.heap[w.heap.size]? = _ := (unhide HF).2.2.block w.heap.size hgl |>.trans (unhide HG1)
  have hg2' : w5.heap[w.heap.size + 1]? = _ := (unhide HF).2.2.block (w.heap.size + 1) (lt_of_row (unhide HG2)) |>.trans (unhide HG2)
  have hsz : w4.drew.heap.size = w4.heap.size := rfl
  have hg1s : (w5.setCell ⟨w.heap.size, 2, none⟩ (.slice ra ln rc)).heap[w.heap.size]? = some (.cells (rl c (upd P 1 ra) (upd N 1 ln) (upd C 1 rc) bf n' k true) 33 (0, 0)) := rl_set hg1' 1 (by omega) ra ln rc
  have hg2s := (Below.heap_setCell w5 ⟨w.heap.size, 2, none⟩ (.slice ra ln rc) (w.heap.size + 1) (by show w.heap.size + 1 ≠ w.heap.size; omega)).trans hg2'
  have hbb : Below w.heap.size w w5 := (unhide HBB).drew.trans ((unhide HF).2.2.mono (Nat.le_of_lt hgl))
  have hbb2 := hbb.setCell (p := ⟨w.heap.size, 2, none⟩) (Nat.le_refl w.heap.size) (.slice ra ln rc)
  have hBf : Bytes (w5.setCell ⟨w.heap.size, 2, none⟩ (.slice ra ln rc)) (.slice ra ln rc) (x 1 ++ bs) := (unhide HF).1.kept fun k' hk' _ => Below.heap_setCell _ _ _ _ (by have := ((unhide HF).2.1 k' hk').1; show k' ≠ w.heap.size; omega)
  have HOB : Hid (∀ k', (Value.slice ra ln rc).ownBlock = some k' → w.heap.size + 1 < k') := fun k' hk' => by have := ((unhide HF).2.1 k' hk').1; have := lt_of_row (unhide HG2); omega
  generalize w5.setCell _ _ = w6 at *
  have HG1s := hide hg1s
  have HG2s := hide hg2s
  have HB2 := hide hbb2
  have HBF := hide hBf
  clear hg1' hg2' hsz hg1s hg2s hbb hbb2 hBf yl fz2 fz hgl HF HG1 HG2 HBB HUB HXB y0 y1 y2 y3 y4 y5 y6 y7 y8 y9 y10 y11 y12
  go_wp2_with (first
    | refine wpList_load_row rfl 33 (.tmp 3) rfl w.heap.size rfl _ _ _ _ (unhide HG1s) Try.underlying33 rfl (by kernel_rfl) ?_
    | refine wpList_store_row rfl 33 (.tmp 6) (.tmp 56) rfl (w.heap.size + 1) _ rfl rfl _ _ (unhide HG2s) (by kernel_rfl) (unhide HZ) (rl_one ..) ?_)
  refine bodyPost_ret (results_ct rfl _ _ _ _ _ _ _ rfl (setRow_heap _ _ _ _ _ _ (unhide HG2s)) Try.underlying33 rfl (by kernel_rfl)) rfl ?_
  exact ⟨ra, rc, rfl, (unhide HBF).kept fun k' hk' _ => setRow_other _ _ _ _ (by have := unhide HOB k' hk'; omega), fun k' hk' => by have := unhide HOB k' hk'; omega, below_setRow (unhide HB2) (by omega) _⟩

set_option maxHeartbeats 4000000 in
theorem ref_append_killLt1 (t : Nat) (n' : Int) (hk : Kills c P N C bf n (t : Int) n' true) (x : Nat → List UInt8) (hb : ∀ j, j < 4 → Bytes w (.slice (P j) (N j) (C j)) (x j)) (hl : (x 0).length + (x 1).length ≤ 1048576 ∧ (x 2).length + (x 3).length ≤ 1048576) (hc : 0 ≤ c ∧ c ≤ 1048576) (a : Option Addr) (m q : Nat) (bs : List UInt8) (hu : Bytes w (.slice a m q) bs) (hbl : bs.length = m) (hmq : m ≤ q) (hm : ((x 0).length + (x 1).length : Nat) + ((x 2).length + (x 3).length : Nat) + (m : Int) ≤ c) (ht : t < m) :
    Calls Try.prog 30 #[.agg (rl c P N C bf n (t : Int) false), .int .i64 1, .slice a m q] w fun e w' => ∃ ra rc, e = .returned (.tuple #[.agg (rl c (upd P 3 ra) (upd N 3 (x 3 ++ bs.take t).length) (upd C 3 rc) bf n' (t : Int) true), .int .i64 3]) ∧ Bytes w' (.slice ra (x 3 ++ bs.take t).length rc) (x 3 ++ bs.take t) ∧ (∀ k, (Value.slice ra (x 3 ++ bs.take t).length rc).ownBlock = some k → w.heap.size ≤ k) ∧ Below w.heap.size w w' := by
  have hgt : ¬ (m : Int) > c - ((x 0).length + (x 1).length : Nat) - ((x 2).length + (x 3).length : Nat) := by omega
  obtain ⟨fr, hfr⟩ : ∃ fr : Int, fr = c - ((x 0).length + (x 1).length : Nat) - ((x 2).length + (x 3).length : Nat) := ⟨_, rfl⟩
  rw [← hfr] at hgt
  have HFR := hide hfr
  have HK := hide hk
  have HU := hide hu
  have HXL : Hid ((x 3).length + bs.length ≤ 140737488355328) := by show _ ≤ _; omega
  have hmq' : (m : Int) ≤ (q : Int) := by omega
  have hm0 : (0 : Int) ≤ (m : Int) := by omega
  have htm : t ≤ m := by omega
  have HTM := hide htm
  have HBL := hide hbl
  have HXT : Hid ((x 3).length + (bs.take t).length ≤ 140737488355328) := by
    show _ ≤ _
    have := unhide HXL
    rw [List.length_take]; omega
  have ht0 : (0 : Int) ≤ (t : Int) := by omega
  have htq : (t : Int) ≤ (q : Int) := by omega
  have htl : (t : Int) < (m : Int) := by omega
  obtain ⟨ln, hln⟩ : ∃ ln, ln = (x 3 ++ bs.take t).length := ⟨_, rfl⟩
  have HLN := hide hln
  rw [← hln]
  clear hln
  clear hfr hm hk hu
  have HB := hide hb
  have HHL := hide hl
  have HHC := hide hc
  clear hb hl hc
  go_enter Try.func30, Try.ntmps30
  unfold rl
  go_wp2_with fail
  generalize hww : World.alloc (World.alloc w _) _ = w1
  have hg1 : w1.heap[w.heap.size]? = some (.cells (rl c P N C bf n (t : Int) false) 33 (0, 0)) := by rw [← hww, Below.heap_alloc _ _ _ (by simp)]; exact heap_alloc_new w _
  have hg2 : ∃ z, z.size = 13 ∧ w1.heap[w.heap.size + 1]? = some (.cells z 33 (0, 0)) := ⟨_, rfl, by rw [← hww]; exact heap_last _ _ _ (by simp)⟩
  have hb1 : Below w.heap.size w w1 := by rw [← hww]; exact ((Below.refl _ w).alloc (Nat.le_refl _) _).alloc (by simp) _
  clear hww
  refine (ref_free c P N C bf n (t : Int) w1 x (fun j hj => (unhide HB j hj).kept fun k' _ hk' => hb1.block k' hk') (unhide HHL) (unhide HHC)).mono ?_
  rintro e w2 ⟨rfl, hb2⟩
  rw [← unhide HFR]
  obtain ⟨z, hz, hg2⟩ := hg2
  have hg1' := row_later hg1 hb2
  have hg2' := row_later hg2 hb2
  have hbb := hb1.trans (hb2.mono hb1.size)
  obtain ⟨y0, y1, y2, y3, y4, y5, y6, y7, y8, y9, y10, y11, y12⟩ := row13 hg1'
  have HG1 := hide hg1'
  have HG2 := hide hg2'
  have HBB := hide hbb
  have HZ := hide hz
  clear hg1 hg2 hb1 hb2 hg1' hg2' hz hbb
  go_wp2_with fail
  refine (unhide HK _).mono ?_
  rintro e w3 ⟨rfl, hb3⟩
  clear y0 y1 y2 y3 y4 y5 y6 y7 y8 y9 y10 y11 y12
  have hg1' := row_later (unhide HG1) hb3
  have hg2' := row_later (unhide HG2) hb3
  have hbb := (unhide HBB).trans (hb3.mono (unhide HBB).size)
  clear HG1 HG2 HBB
  have HG1 := hide hg1'
  clear hg1' hb3
  go_upto_region 9 with (refine wpList_store_row rfl 33 (.tmp 3) (.tmp 29) rfl w.heap.size (rl c P N C bf n' (t : Int) true) rfl rfl _ _ (unhide HG1) (by kernel_rfl) rfl (rl_one ..) ?_)
  have HG2 := hide ((setRow_other w3 w.heap.size (w.heap.size + 1) (rl c P N C bf n' (t : Int) true) (by omega)).trans hg2')
  have hg1' := setRow_heap w3 w.heap.size _ (rl c P N C bf n' (t : Int) true) _ _ (unhide HG1)
  have HBB := hide (below_setRow hbb (Nat.le_refl w.heap.size) (rl c P N C bf n' (t : Int) true))
  generalize hw4 : w3.setRow _ _ = w4
  rw [hw4] at HG2 hg1' HBB
  obtain ⟨y0, y1, y2, y3, y4, y5, y6, y7, y8, y9, y10, y11, y12⟩ := row13 hg1'
  have fz := rl_frz hg1' 4
  have hgl : w.heap.size < w4.heap.size := lt_of_row hg1'
  clear HG1
  have HG1 := hide hg1'
  clear hg1' hg2' hbb hw4
  have HUB : Hid (Bytes w4 (.slice a t q) (bs.take t)) := (((unhide HU).take (unhide HTM) (unhide HBL))).kept fun k' _ hk' => (unhide HBB).block k' hk'
  have HXB : Hid (Bytes w4 (.slice (P 3) (N 3) (C 3)) (x 3)) := (unhide HB 3 (by omega)).kept fun k' _ hk' => (unhide HBB).block k' hk'
  go_upto_region 11 with fail
  go_region_with (first
    | (go_at_call 59; refine (join_any _ _ (x 3) (bs.take t) _ (by exact (unhide HXB).kept (fun _ _ _ => rfl)) (by exact (unhide HUB).kept (fun _ _ _ => rfl)) (unhide HXT)).mono ?_; rintro e w5 ⟨r, rfl, hF⟩; obtain ⟨ra, rc, hr, _⟩ := hF.1.form; rw [← unhide HLN] at hr; subst hr; have yl := (hF.2.2.cell (p := ⟨w.heap.size, 4, none⟩) hgl).trans y4; have fz2 := (World.frozen?_of_block (a := ⟨w.heap.size, 4, none⟩) (hF.2.2.block w.heap.size hgl)).trans fz; have HF := hide hF; clear hF))
  have hg1' : w5.heap[w.heap.size]? = _ := (unhide HF).2.2.block w.heap.size hgl |>.trans (unhide HG1)
  have hg2' : w5.heap[w.heap.size + 1]? = _ := (unhide HF).2.2.block (w.heap.size + 1) (lt_of_row (unhide HG2)) |>.trans (unhide HG2)
  have hsz : w4.drew.heap.size = w4.heap.size := rfl
  have hg1s : (w5.setCell ⟨w.heap.size, 4, none⟩ (.slice ra ln rc)).heap[w.heap.size]? = some (.cells (rl c (upd P 3 ra) (upd N 3 ln) (upd C 3 rc) bf n' (t : Int) true) 33 (0, 0)) := rl_set hg1' 3 (by omega) ra ln rc
  have hg2s := (Below.heap_setCell w5 ⟨w.heap.size, 4, none⟩ (.slice ra ln rc) (w.heap.size + 1) (by show w.heap.size + 1 ≠ w.heap.size; omega)).trans hg2'
  have hbb : Below w.heap.size w w5 := (unhide HBB).drew.trans ((unhide HF).2.2.mono (Nat.le_of_lt hgl))
  have hbb2 := hbb.setCell (p := ⟨w.heap.size, 4, none⟩) (Nat.le_refl w.heap.size) (.slice ra ln rc)
  have hBf : Bytes (w5.setCell ⟨w.heap.size, 4, none⟩ (.slice ra ln rc)) (.slice ra ln rc) (x 3 ++ bs.take t) := (unhide HF).1.kept fun k' hk' _ => Below.heap_setCell _ _ _ _ (by have := ((unhide HF).2.1 k' hk').1; show k' ≠ w.heap.size; omega)
  have HOB : Hid (∀ k', (Value.slice ra ln rc).ownBlock = some k' → w.heap.size + 1 < k') := fun k' hk' => by have := ((unhide HF).2.1 k' hk').1; have := lt_of_row (unhide HG2); omega
  generalize w5.setCell _ _ = w6 at *
  have HG1s := hide hg1s
  have HG2s := hide hg2s
  have HB2 := hide hbb2
  have HBF := hide hBf
  clear hg1' hg2' hsz hg1s hg2s hbb hbb2 hBf yl fz2 fz hgl HF HG1 HG2 HBB HUB HXB y0 y1 y2 y3 y4 y5 y6 y7 y8 y9 y10 y11 y12
  go_wp2_with (first
    | refine wpList_load_row rfl 33 (.tmp 3) rfl w.heap.size rfl _ _ _ _ (unhide HG1s) Try.underlying33 rfl (by kernel_rfl) ?_
    | refine wpList_store_row rfl 33 (.tmp 6) (.tmp 56) rfl (w.heap.size + 1) _ rfl rfl _ _ (unhide HG2s) (by kernel_rfl) (unhide HZ) (rl_one ..) ?_)
  refine bodyPost_ret (results_ct rfl _ _ _ _ _ _ _ rfl (setRow_heap _ _ _ _ _ _ (unhide HG2s)) Try.underlying33 rfl (by kernel_rfl)) rfl ?_
  exact ⟨ra, rc, rfl, (unhide HBF).kept fun k' hk' _ => setRow_other _ _ _ _ (by have := unhide HOB k' hk'; omega), fun k' hk' => by have := unhide HOB k' hk'; omega, below_setRow (unhide HB2) (by omega) _⟩

set_option maxHeartbeats 4000000 in
theorem ref_append_killGe1 (n' : Int) (hk : Kills c P N C bf n k n' true) (x : Nat → List UInt8) (hb : ∀ j, j < 4 → Bytes w (.slice (P j) (N j) (C j)) (x j)) (hl : (x 0).length + (x 1).length ≤ 1048576 ∧ (x 2).length + (x 3).length ≤ 1048576) (hc : 0 ≤ c ∧ c ≤ 1048576) (a : Option Addr) (m q : Nat) (bs : List UInt8) (hu : Bytes w (.slice a m q) bs) (hbl : bs.length = m) (hmq : m ≤ q) (hm : ((x 0).length + (x 1).length : Nat) + ((x 2).length + (x 3).length : Nat) + (m : Int) ≤ c) (hkm : (m : Int) ≤ k) :
    Calls Try.prog 30 #[.agg (rl c P N C bf n k false), .int .i64 1, .slice a m q] w fun e w' => ∃ ra rc, e = .returned (.tuple #[.agg (rl c (upd P 3 ra) (upd N 3 (x 3 ++ bs).length) (upd C 3 rc) bf n' k true), .int .i64 3]) ∧ Bytes w' (.slice ra (x 3 ++ bs).length rc) (x 3 ++ bs) ∧ (∀ k, (Value.slice ra (x 3 ++ bs).length rc).ownBlock = some k → w.heap.size ≤ k) ∧ Below w.heap.size w w' := by
  have hgt : ¬ (m : Int) > c - ((x 0).length + (x 1).length : Nat) - ((x 2).length + (x 3).length : Nat) := by omega
  obtain ⟨fr, hfr⟩ : ∃ fr : Int, fr = c - ((x 0).length + (x 1).length : Nat) - ((x 2).length + (x 3).length : Nat) := ⟨_, rfl⟩
  rw [← hfr] at hgt
  have HFR := hide hfr
  have HK := hide hk
  have HU := hide hu
  have HXL : Hid ((x 3).length + bs.length ≤ 140737488355328) := by show _ ≤ _; omega
  have hmq' : (m : Int) ≤ (q : Int) := by omega
  have hm0 : (0 : Int) ≤ (m : Int) := by omega
  have htl : ¬ k < (m : Int) := by omega
  obtain ⟨ln, hln⟩ : ∃ ln, ln = (x 3 ++ bs).length := ⟨_, rfl⟩
  have HLN := hide hln
  rw [← hln]
  clear hln
  clear hfr hm hk hu
  have HB := hide hb
  have HHL := hide hl
  have HHC := hide hc
  clear hb hl hc
  go_enter Try.func30, Try.ntmps30
  unfold rl
  go_wp2_with fail
  generalize hww : World.alloc (World.alloc w _) _ = w1
  have hg1 : w1.heap[w.heap.size]? = some (.cells (rl c P N C bf n k false) 33 (0, 0)) := by rw [← hww, Below.heap_alloc _ _ _ (by simp)]; exact heap_alloc_new w _
  have hg2 : ∃ z, z.size = 13 ∧ w1.heap[w.heap.size + 1]? = some (.cells z 33 (0, 0)) := ⟨_, rfl, by rw [← hww]; exact heap_last _ _ _ (by simp)⟩
  have hb1 : Below w.heap.size w w1 := by rw [← hww]; exact ((Below.refl _ w).alloc (Nat.le_refl _) _).alloc (by simp) _
  clear hww
  refine (ref_free c P N C bf n k w1 x (fun j hj => (unhide HB j hj).kept fun k' _ hk' => hb1.block k' hk') (unhide HHL) (unhide HHC)).mono ?_
  rintro e w2 ⟨rfl, hb2⟩
  rw [← unhide HFR]
  obtain ⟨z, hz, hg2⟩ := hg2
  have hg1' := row_later hg1 hb2
  have hg2' := row_later hg2 hb2
  have hbb := hb1.trans (hb2.mono hb1.size)
  obtain ⟨y0, y1, y2, y3, y4, y5, y6, y7, y8, y9, y10, y11, y12⟩ := row13 hg1'
  have HG1 := hide hg1'
  have HG2 := hide hg2'
  have HBB := hide hbb
  have HZ := hide hz
  clear hg1 hg2 hb1 hb2 hg1' hg2' hz hbb
  go_wp2_with fail
  refine (unhide HK _).mono ?_
  rintro e w3 ⟨rfl, hb3⟩
  clear y0 y1 y2 y3 y4 y5 y6 y7 y8 y9 y10 y11 y12
  have hg1' := row_later (unhide HG1) hb3
  have hg2' := row_later (unhide HG2) hb3
  have hbb := (unhide HBB).trans (hb3.mono (unhide HBB).size)
  clear HG1 HG2 HBB
  have HG1 := hide hg1'
  clear hg1' hb3
  go_upto_region 9 with (refine wpList_store_row rfl 33 (.tmp 3) (.tmp 29) rfl w.heap.size (rl c P N C bf n' k true) rfl rfl _ _ (unhide HG1) (by kernel_rfl) rfl (rl_one ..) ?_)
  have HG2 := hide ((setRow_other w3 w.heap.size (w.heap.size + 1) (rl c P N C bf n' k true) (by omega)).trans hg2')
  have hg1' := setRow_heap w3 w.heap.size _ (rl c P N C bf n' k true) _ _ (unhide HG1)
  have HBB := hide (below_setRow hbb (Nat.le_refl w.heap.size) (rl c P N C bf n' k true))
  generalize hw4 : w3.setRow _ _ = w4
  rw [hw4] at HG2 hg1' HBB
  obtain ⟨y0, y1, y2, y3, y4, y5, y6, y7, y8, y9, y10, y11, y12⟩ := row13 hg1'
  have fz := rl_frz hg1' 4
  have hgl : w.heap.size < w4.heap.size := lt_of_row hg1'
  clear HG1
  have HG1 := hide hg1'
  clear hg1' hg2' hbb hw4
  have HUB : Hid (Bytes w4 (.slice a m q) bs) := ((unhide HU)).kept fun k' _ hk' => (unhide HBB).block k' hk'
  have HXB : Hid (Bytes w4 (.slice (P 3) (N 3) (C 3)) (x 3)) := (unhide HB 3 (by omega)).kept fun k' _ hk' => (unhide HBB).block k' hk'
  go_upto_region 11 with fail
  go_region_with (first
    | (go_at_call 59; refine (join_any _ _ (x 3) (bs) _ (by exact (unhide HXB).kept (fun _ _ _ => rfl)) (by exact (unhide HUB).kept (fun _ _ _ => rfl)) (unhide HXL)).mono ?_; rintro e w5 ⟨r, rfl, hF⟩; obtain ⟨ra, rc, hr, _⟩ := hF.1.form; rw [← unhide HLN] at hr; subst hr; have yl := (hF.2.2.cell (p := ⟨w.heap.size, 4, none⟩) hgl).trans y4; have fz2 := (World.frozen?_of_block (a := ⟨w.heap.size, 4, none⟩) (hF.2.2.block w.heap.size hgl)).trans fz; have HF := hide hF; clear hF))
  have hg1' : w5.heap[w.heap.size]? = _ := (unhide HF).2.2.block w.heap.size hgl |>.trans (unhide HG1)
  have hg2' : w5.heap[w.heap.size + 1]? = _ := (unhide HF).2.2.block (w.heap.size + 1) (lt_of_row (unhide HG2)) |>.trans (unhide HG2)
  have hsz : w4.drew.heap.size = w4.heap.size := rfl
  have hg1s : (w5.setCell ⟨w.heap.size, 4, none⟩ (.slice ra ln rc)).heap[w.heap.size]? = some (.cells (rl c (upd P 3 ra) (upd N 3 ln) (upd C 3 rc) bf n' k true) 33 (0, 0)) := rl_set hg1' 3 (by omega) ra ln rc
  have hg2s := (Below.heap_setCell w5 ⟨w.heap.size, 4, none⟩ (.slice ra ln rc) (w.heap.size + 1) (by show w.heap.size + 1 ≠ w.heap.size; omega)).trans hg2'
  have hbb : Below w.heap.size w w5 := (unhide HBB).drew.trans ((unhide HF).2.2.mono (Nat.le_of_lt hgl))
  have hbb2 := hbb.setCell (p := ⟨w.heap.size, 4, none⟩) (Nat.le_refl w.heap.size) (.slice ra ln rc)
  have hBf : Bytes (w5.setCell ⟨w.heap.size, 4, none⟩ (.slice ra ln rc)) (.slice ra ln rc) (x 3 ++ bs) := (unhide HF).1.kept fun k' hk' _ => Below.heap_setCell _ _ _ _ (by have := ((unhide HF).2.1 k' hk').1; show k' ≠ w.heap.size; omega)
  have HOB : Hid (∀ k', (Value.slice ra ln rc).ownBlock = some k' → w.heap.size + 1 < k') := fun k' hk' => by have := ((unhide HF).2.1 k' hk').1; have := lt_of_row (unhide HG2); omega
  generalize w5.setCell _ _ = w6 at *
  have HG1s := hide hg1s
  have HG2s := hide hg2s
  have HB2 := hide hbb2
  have HBF := hide hBf
  clear hg1' hg2' hsz hg1s hg2s hbb hbb2 hBf yl fz2 fz hgl HF HG1 HG2 HBB HUB HXB y0 y1 y2 y3 y4 y5 y6 y7 y8 y9 y10 y11 y12
  go_wp2_with (first
    | refine wpList_load_row rfl 33 (.tmp 3) rfl w.heap.size rfl _ _ _ _ (unhide HG1s) Try.underlying33 rfl (by kernel_rfl) ?_
    | refine wpList_store_row rfl 33 (.tmp 6) (.tmp 56) rfl (w.heap.size + 1) _ rfl rfl _ _ (unhide HG2s) (by kernel_rfl) (unhide HZ) (rl_one ..) ?_)
  refine bodyPost_ret (results_ct rfl _ _ _ _ _ _ _ rfl (setRow_heap _ _ _ _ _ _ (unhide HG2s)) Try.underlying33 rfl (by kernel_rfl)) rfl ?_
  exact ⟨ra, rc, rfl, (unhide HBF).kept fun k' hk' _ => setRow_other _ _ _ _ (by have := unhide HOB k' hk'; omega), fun k' hk' => by have := unhide HOB k' hk'; omega, below_setRow (unhide HB2) (by omega) _⟩

end
end Go.Proofs.Ytbpjlkjokafdnaa
