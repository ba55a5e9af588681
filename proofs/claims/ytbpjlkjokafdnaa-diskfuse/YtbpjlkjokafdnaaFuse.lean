/- DiskFuse: the walk of the statement's function. -/
import Derived.Test.YtbpjlkjokafdnaaEnv2
import Derived.Test.YtbpjlkjokafdnaaFull
namespace Go.Proofs.Ytbpjlkjokafdnaa
open Go.RowKit

/-- What the first loop keeps: j of n calls are done. -/
def FuRel (w1 : World) (p : Nat) (n k : Int) (j : Nat) (W : World) : Prop := ∃ A, Now (fun k => k = p) p A w1 W ∧ A.cap = 2000 ∧ A.part = k ∧ A.calls = n - j ∧ A.dead = false ∧ ((A.x 0).length : Int) = (j + 1) / 2 ∧ ((A.x 1).length : Int) = j / 2

/-- What the second loop keeps: the disk with a fuse that has burnt, and beside it a row of z bytes at block q. -/
def FbRel (w : World) (p q : Nat) (n k : Int) (z : Nat) (W : World) : Prop := ∃ D v A L, DiskIs W p D v A ∧ ¬ D q ∧ (∀ k, D k → w.heap.size ≤ k) ∧ w.heap.size ≤ q ∧ Below w.heap.size w W ∧ A.cap = 2000 ∧ A.part = k ∧ A.calls = 0 ∧ A.dead = false ∧ ((A.x 0).length : Int) = (n + 1) / 2 ∧ ((A.x 1).length : Int) = n / 2 ∧
  (L : List UInt8).length = z ∧ W.heap[q]? = some (.cells (L.map bv).toArray 5 (0, 0))

/-- What the third loop keeps: no fuse, and room enough. -/
def FcRel (D : Nat → Prop) (p : Nat) (w : World) (s : Nat) (W : World) : Prop := ∃ A, Now D p A w W ∧ A.cap = 2000 ∧ A.dead = false ∧ A.calls = -1 ∧ (A.x 0).length + (A.x 1).length ≤ s

theorem fb_start {w w1 W W' : World} {p n z : Nat} {k : Int} (hp : p = w.heap.size) (hz1 : w1.heap.size = p + 1) (hb1 : Below p w w1) (h : FuRel w1 p n k n W) (hown : W'.ownsRow 0 5 1 (.slice (some ⟨W.heap.size, 0, none⟩) z z) z (madeCells #[Value.int .u8 0] z).toList) (hgrow : W.grownBy W' none) : FbRel w p W.heap.size n k z W' := by
  obtain ⟨A, ⟨D, v, hD, hS⟩, h1, h2, h3, h4, h5, h6⟩ := h
  have hbe := Below.ofGrown hgrow
  have hB : Below w.heap.size w W := (hb1.mono (by omega)).trans (hS.below (by omega) (fun k hk => by have e : k = p := hk; omega))
  have hDB : ∀ k, D k → w.heap.size ≤ k := fun k hk => by
    rcases hS.own k hk with e | e
    · have e' : k = p := e; omega
    · omega
  refine ⟨D, v, A, List.replicate z 0, hD.kept hbe.size fun k hk => hbe.block k (hD.lt k hk), hD.fresh _ (Nat.le_refl _), hDB, hB.size, hB.trans (hbe.mono hB.size), h1, h2, by omega, h4, h5, h6, by simp, ?_⟩
  rcases hown.2 with ⟨hv, _⟩ | ⟨g, cap, cur, hv, _, hg, _, _, hcs, htk⟩
  · cases hv
  · simp only [Value.slice.injEq, Option.some.injEq, Addr.mk.injEq, and_true, true_and] at hv
    obtain ⟨rfl, rfl⟩ := hv
    rw [hg]
    congr 2
    apply Array.ext'
    rw [List.take_of_length_le (by simp; omega)] at htk
    rw [htk, List.map_replicate]
    exact toList_madeCells_one _ _

theorem fb_store {w W : World} {p q : Nat} {n k : Int} {z i : Nat} (h : FbRel w p q n k z W) (x : Int) (h0 : 0 ≤ x) (h1 : x ≤ 255) : FbRel w p q n k z (W.setCell ⟨q, i, none⟩ (.int .u8 x)) := by
  obtain ⟨D, v, A, L, hD, nq, hDB, hqB, hB, h2, h3, h4, h5, h6, h7, hL, hq⟩ := h
  refine ⟨D, v, A, L.set i (UInt8.ofNat x.toNat), hD.setOther (a := ⟨q, i, none⟩) nq _, nq, hDB, hqB, hB.setCell (p := ⟨q, i, none⟩) hqB _, h2, h3, h4, h5, h6, h7, by simpa using hL, ?_⟩
  rw [heap_setCell_same W q i _ _ _ hq]
  congr 2
  have e : (Value.int .u8 x) = bv (UInt8.ofNat x.toNat) := by
    unfold bv
    rw [UInt8.toNat_ofNat']
    congr 1
    omega
  rw [e, List.map_set]
  simp

theorem make32b : ∃ Z : Array Value, Z = ((List.replicate 32 (0 : UInt8)).map bv).toArray ∧ ∀ W : World, (Instr.makeSlice 28 (.int .i64 32) (.int .i64 32)).run Try.prog W = .ok (.slice (some ⟨W.heap.size, 0, none⟩) 32 32) (W.alloc (.cells Z 5)) := by
  obtain ⟨i, hi, hz0, hz1, hz2⟩ := infoByte
  refine ⟨madeCells (Value.int .u8 0).cells (Int.toNat 32 * i.size), ?_, fun W => ?_⟩
  · rw [hz1]
    apply Array.ext'
    rw [List.map_replicate]
    exact toList_madeCells_one _ _
  · exact run_make (P := Try.prog) W 28 5 i (.int .u8 0) Try.underlying28 hi hz0 .i64 .i64 32 32 (by omega) (by omega) (by rw [hz2]; omega) (by omega)

theorem crash_all {A : AD} (h : A.Ok) (i : Nat) (hi : i < 2) : (A.crashed (kp 1073741824 1073741824 1073741824 1073741824)).x i = A.x i := by
  have h0 := h.room
  have h1 := h.cap
  have e : ∀ j, j < 2 → (A.x j).take (A.safe j + keepN 1073741824 ((A.x j).length - A.safe j)) = A.x j := fun j hj => by
    refine List.take_of_length_le ?_
    have hl : (A.x j).length ≤ 1048576 := by rcases (show j = 0 ∨ j = 1 by omega) with rfl | rfl <;> omega
    have := h.safe j hj
    unfold keepN
    omega
  rcases (show i = 0 ∨ i = 1 by omega) with rfl | rfl
  · have e0 := e 0 (by omega)
    unfold AD.crashed AD.crashSlot AD.crashSeg
    simp only [upd]
    simpa [kp] using e0
  · have e1 := e 1 (by omega)
    unfold AD.crashed AD.crashSlot AD.crashSeg
    simp only [upd]
    simpa [kp] using e1

theorem one_byte (j : Nat) (h : j < 256) : #[Value.int .u8 (j : Int)] = (([UInt8.ofNat j] : List UInt8).map bv).toArray := by
  show #[Value.int .u8 (j : Int)] = #[Value.int .u8 ((UInt8.ofNat j).toNat : Int)]
  rw [UInt8.toNat_ofNat', Nat.mod_eq_of_lt h]

theorem make3000 : ∃ Z : Array Value, Z = ((List.replicate 3000 (0 : UInt8)).map bv).toArray ∧ ∀ W : World, (Instr.makeSlice 28 (.int .i64 3000) (.int .i64 3000)).run Try.prog W = .ok (.slice (some ⟨W.heap.size, 0, none⟩) 3000 3000) (W.alloc (.cells Z 5)) := by
  obtain ⟨i, hi, hz0, hz1, hz2⟩ := infoByte
  refine ⟨madeCells (Value.int .u8 0).cells (Int.toNat 3000 * i.size), ?_, fun W => ?_⟩
  · rw [hz1]
    apply Array.ext'
    rw [List.map_replicate]
    exact toList_madeCells_one _ _
  · exact run_make (P := Try.prog) W 28 5 i (.int .u8 0) Try.underlying28 hi hz0 .i64 .i64 3000 3000 (by omega) (by omega) (by rw [hz2]; omega) (by omega)

theorem slice_low {w : World} {ra : Option Addr} {rc m lf : Nat} {gb : List UInt8} (h : Bytes w (.slice ra gb.length rc) gb) (hl : gb.length = m + lf) : ∃ sa sc, Bytes w (.slice sa lf sc) (gb.drop m) ∧ (∀ W : World, (Instr.slice 28 (.slice ra gb.length rc) (some (.int .i64 m)) none none).run Try.prog W = .ok (.slice sa lf sc) W) ∧ ∀ W : World, (Instr.sliceAt 28 (.slice ra gb.length rc) (some (.int .i64 m)) none none).run Try.prog W = .ok (.slice sa lf sc) W := by
  obtain ⟨i, hi, hz0, hz1, hz2⟩ := infoByte
  have hu : Try.prog.underlying 28 = some (.slice 5) := Try.underlying28
  have hel : Try.prog.elem 28 = 5 := by unfold Program.elem; rw [hu]
  have hu' : Try.prog.underlying 28 = some (.slice (Try.prog.elem 28)) := by rw [hel]; exact hu
  have hr : ∀ W : World, (Instr.slice 28 (.slice ra gb.length rc) (some (.int .i64 m)) none none).run Try.prog W = .ok (.slice (if rc = m then ra else ra.map (·.add m)) lf (rc - m)) W := fun W => by
    rw [run_slice_l W 28 ra gb.length rc hu' .i64 m (by omega) (by omega), hel]
    have hsz : (sizeOf 5).run Try.prog W = .ok 1 W := by simp [sizeOf]; rfl
    rw [hsz]
    simp only [Result.andThen, sliced, Int.toNat_natCast, Nat.mul_one]
    rw [show gb.length - m = lf by omega]
  refine ⟨_, _, ?_, hr, fun W => by rw [run_sliceAt_slice W _ _ _ _ _ hu']; exact hr W⟩
  have hdl : (gb.drop m).length = lf := by rw [List.length_drop]; omega
  rcases h with ⟨hv, hb⟩ | ⟨ad, c', hv, hl1, hl2, hb⟩
  · simp only [Value.slice.injEq] at hv
    obtain ⟨rfl, hn, rfl⟩ := hv
    refine .inl ⟨?_, by rw [hb]; simp⟩
    have : lf = 0 := by omega
    subst this
    split <;> simp
  · simp only [Value.slice.injEq] at hv
    obtain ⟨rfl, _, rfl⟩ := hv
    by_cases hc : rc = m
    · rw [if_pos hc]
      have : lf = 0 := by omega
      subst this
      have hn : gb.drop m = [] := List.drop_eq_nil_of_le (by omega)
      rw [hn]
      exact .inr ⟨ad, rc - m, rfl, Nat.zero_le _, by omega, fun j x hx => by simp at hx⟩
    · rw [if_neg hc]
      refine .inr ⟨ad.add m, rc - m, by rw [hdl]; rfl, by rw [hdl]; omega, by omega, fun j x hx => ?_⟩
      have := hb (m + j) x (by rw [List.map_drop, List.getElem?_drop] at hx; exact hx)
      rwa [Addr.add_add]

set_option maxRecDepth 100000 in
set_option maxHeartbeats 4000000 in
theorem diskFuse_any (c0 c1 c2 : Int) (hc0 : 0 ≤ c0 ∧ c0 ≤ 255) (hc1 : 0 ≤ c1 ∧ c1 ≤ 255) (hc2 : 0 ≤ c2 ∧ c2 ≤ 255) (sy : Bool) (w : World) :
    Calls Try.prog 6 #[.int .u8 c0, .int .u8 c1, .int .u8 c2, .bool sy] w fun e w' => e = .returned (.bool true) ∧ Below w.heap.size w w' := by
  obtain ⟨hc00, hc01⟩ := hc0
  obtain ⟨hc10, hc11⟩ := hc1
  obtain ⟨hc20, hc21⟩ := hc2
  obtain ⟨n, hn, hn2⟩ : ∃ n : Nat, c0 % 21 = n ∧ n < 21 := ⟨(c0 % 21).toNat, by omega, by omega⟩
  obtain ⟨k, hk, hk2⟩ : ∃ k : Nat, c1 % 51 = k ∧ k < 51 := ⟨(c1 % 51).toNat, by omega, by omega⟩
  obtain ⟨z, hz, hz2⟩ : ∃ z : Nat, c2 % 31 = z ∧ z < 31 := ⟨(c2 % 31).toNat, by omega, by omega⟩
  have HN := hide hn
  have HK := hide hk
  have HZ := hide hz
  clear hn hk hz
  obtain ⟨p, hp⟩ : ∃ p, p = w.heap.size := ⟨_, rfl⟩
  have HP := hide hp
  clear hp
  go_enter Try.func6, Try.ntmps6
  go_wp2_with fail
  rw [unhide HN, unhide HK, unhide HZ]
  clear HN HK HZ
  refine (new_at 2000 (by omega) (by omega) _ p (unhide HP).symm).mono ?_
  rintro e w1 ⟨rfl, hN, hz1, hb1⟩
  have HZ1 := hide hz1
  have HB1 := hide hb1
  have HNW := hide hN
  clear hN hz1 hb1
  go_wp2_with fail
  refine (nFuse (unhide HNW) rfl n k (by omega)).mono ?_
  rintro e w2 ⟨rfl, hN⟩
  have hR : FuRel w1 p n k 0 w2 := ⟨_, hN, rfl, rfl, by show max (n : Int) (-1) = _; omega, rfl, rfl, rfl⟩
  have HR := hide hR
  clear hN hR HNW
  go_wp2_with fail
  go_loopw [39] (fun i W => ∃ j : Nat, j ≤ n ∧ i = .int .i64 j ∧ FuRel w1 p n k j W) (fun i _ => n - (intOf i).toNat)
  case atStart => exact ⟨0, Nat.zero_le _, rfl, unhide HR⟩
  case round =>
    obtain ⟨j, hj, rfl, hR⟩ := hrel
    have HR1 := hide hR
    clear hR HR
    by_cases hlt : j < n
    · obtain ⟨A, hN, hcap, hpart, hcalls, hdead, hl0, hl1⟩ := unhide HR1
      have HNW := hide hN
      have HC := hide hcap
      have HPA := hide hpart
      have HCA := hide hcalls
      have HDE := hide hdead
      have HL0 := hide hl0
      have HL1 := hide hl1
      have hlt' : (j : Int) < (n : Int) := by omega
      clear hN hcap hpart hcalls hdead hl0 hl1 HR1
      obtain ⟨Z, hZ, hmk⟩ := make3000
      have HZ3 := hide hZ
      clear hZ
      go_wp2_with fail
      refine (nAppend_arg (unhide HNW) (unhide HDE) 5 (.inr (by omega)) none 0 0).mono ?_
      rintro e w3 ⟨rfl, hN⟩
      clear HNW
      have HNW := hide hN
      clear hN
      go_wp2_with fail
      refine (nTruncate_arg (unhide HNW) (unhide HDE) 0 (-1) (.inr ⟨0, by omega, rfl, .inl (by omega)⟩)).mono ?_
      rintro e w4 ⟨rfl, hN⟩
      clear HNW
      have HNW := hide hN
      clear hN
      go_wp2_with fail
      refine (nAppend_full0 ((unhide HNW).alloc _) (unhide HDE) _ (List.replicate 3000 0) (lit_bytes w4 Z 3000 _ (by rw [List.length_replicate]) (by rw [List.length_replicate]; omega) (unhide HZ3)) (by rw [List.length_replicate, unhide HC]; omega)).mono ?_
      rintro e w5 ⟨rfl, hN⟩
      clear HNW
      have HNW := hide hN
      clear hN
      go_wp2_with fail
      rw [show ((j : Int) % 2) = ((j % 2 : Nat) : Int) by omega]
      refine (nAppend_lit (unhide HNW) (unhide HDE) (by rw [unhide HCA]; omega) (j % 2) (by omega) 1 1 [UInt8.ofNat j] (lit_bytes w5 _ 1 _ rfl (by show 1 ≤ 1048576; omega) (one_byte j (by omega))) (by rw [unhide HC]; have := unhide HL0; have := unhide HL1; show _ + ((1 : Nat) : Int) ≤ 2000; omega)).mono ?_
      rintro e w6 ⟨rfl, hN⟩
      have HFIN : Hid (FuRel w1 p n k (j + 1) w6) := by
        refine ⟨_, hN, unhide HC, unhide HPA, ?_, unhide HDE, ?_, ?_⟩
        · show (A.tick).calls = _
          rw [tick_pos (by rw [unhide HCA]; omega)]
          show A.calls - 1 = _
          rw [unhide HCA]; omega
        · show (((upd A.x (j % 2) (A.x (j % 2) ++ [UInt8.ofNat j])) 0).length : Int) = _
          have h0 := unhide HL0
          by_cases e : j % 2 = 0
          · rw [e, upd_same, List.length_append]
            show (((A.x 0).length + 1 : Nat) : Int) = _
            omega
          · rw [upd_other _ _ (by omega)]; omega
        · show (((upd A.x (j % 2) (A.x (j % 2) ++ [UInt8.ofNat j])) 1).length : Int) = _
          have h0 := unhide HL1
          by_cases e : j % 2 = 1
          · rw [e, upd_same, List.length_append]
            show (((A.x 1).length + 1 : Nat) : Int) = _
            omega
          · rw [upd_other _ _ (by omega)]; omega
      clear hN HNW
      go_wp2_with fail
      exact ⟨⟨j + 1, by omega, by go_num, unhide HFIN⟩, by simp [intOf]; omega⟩
    · have hjn : j = n := by omega
      subst hjn
      clear hj hlt
      obtain ⟨ti, hti, hz0, hz1, hz2⟩ := infoByte
      go_wp2_with (at_make; refine wpList_make_full _ rfl _ _ 28 rfl 0 5 ti (.int .u8 0) 1 Try.underlying28 hti hz0 hz1 _ _ _ _ z rfl rfl rfl rfl (by rw [hz2]; omega) (by unfold maxLen; omega) (Nat.zero_le _) ?_)
      intro w3 hown hgrow
      have hF := fb_start (unhide HP) (unhide HZ1) (unhide HB1) (unhide HR1) hown hgrow
      obtain ⟨q, hq⟩ : ∃ q, q = wr.heap.size := ⟨_, rfl⟩
      rw [← hq] at hF ⊢
      have HF := hide hF
      clear hF hown hgrow hti hz0 hz1 hz2 HR1 hq
      go_wp2_with fail
      go_loopw [71] (fun i W => ∃ t : Nat, t ≤ z ∧ i = .int .i64 t ∧ FbRel w p q j k z W) (fun i _ => z - (intOf i).toNat)
      case atStart => exact ⟨0, Nat.zero_le _, rfl, unhide HF⟩
      case round =>
        obtain ⟨t, ht, rfl, hF⟩ := hrel
        have HF2 := hide hF
        clear hF HF
        by_cases htz : t < z
        · have hcell : ∃ x, wr.cell? ⟨q, t, none⟩ = some x := by
            obtain ⟨D, v, A, L, hD, nq, hDB, hqB, hB, h2, h3, h4, h5, h6, h7, hL, hq⟩ := unhide HF2
            have hlt : t < L.length := by omega
            exact ⟨bv (L[t]), by rw [cell_of_row _ _ t _ _ _ hq]; simp [hlt]⟩
          obtain ⟨x, hx⟩ := hcell
          have hfz : wr.frozen? ⟨q, t, none⟩ = false := by
            obtain ⟨D, v, A, L, hD, nq, hDB, hqB, hB, h2, h3, h4, h5, h6, h7, hL, hq⟩ := unhide HF2
            exact frozen_of_row _ _ _ _ _ hq
          have htz' : (t : Int) < (z : Int) := by omega
          go_wp2_with fail
          exact ⟨⟨t + 1, by omega, by go_num, fb_store (unhide HF2) _ (by omega) (by omega)⟩, by simp [intOf]; omega⟩
        · obtain ⟨D, v, A, L, hD, nq, hDB, hqB, hB, hcap, hpart, hcalls, hdead, hl0, hl1, hL, hq⟩ := unhide HF2
          have HC := hide hcap
          have HPA := hide hpart
          have HCA := hide hcalls
          have HDE := hide hdead
          have HL0 := hide hl0
          have HL1 := hide hl1
          have HLL := hide hL
          have HNW := hide (Now.start hD)
          have HBY : Hid (Bytes wr (.slice (some ⟨q, 0, none⟩) z z) L) := .inr ⟨⟨q, 0, none⟩, z, by rw [hL], by omega, by unfold maxLen; omega, fun j' x hx => by rw [Addr.add_mid, Nat.zero_add, cell_of_row _ _ _ _ _ _ hq]; simpa using hx⟩
          have HOF : Hid (Off D wr (.slice (some ⟨q, 0, none⟩) z z) L) := fun hb k' hk' => ⟨fun hd => nq (by simp [Value.ownBlock] at hk'; rw [hk']; exact hd), (unhide HBY).lt hb k' hk'⟩
          have HBW := hide hB
          have HDB := hide hDB
          have htz' : ¬ (t : Int) < (z : Int) := by omega
          clear hD nq hDB hqB hB hcap hpart hcalls hdead hl0 hl1 hL hq HF2
          obtain ⟨ws, rfl⟩ : ∃ ws, ws = wr := ⟨_, rfl⟩
          cases sy
          · go_wp2_with fail
            refine (nAppend_kill0 (unhide HNW) (unhide HDE) (unhide HCA) _ L (unhide HBY) (unhide HOF) (by rw [unhide HC]; have := unhide HL0; have := unhide HL1; have := unhide HLL; omega)).mono ?_
            rintro e x1 ⟨rfl, hN⟩
            obtain ⟨A1, hA1, hN⟩ : ∃ A1 : AD, (A1.dead = true ∧ A1.cap = 2000 ∧ A1.x 0 = A.x 0 ++ L.take (min k z) ∧ A1.x 1 = A.x 1) ∧ Now D p A1 ws x1 := ⟨A.killed 0 L, ⟨rfl, unhide HC, by show (upd A.x 0 (A.x 0 ++ L.take (keepN A.part L.length))) 0 = A.x 0 ++ L.take (min k z); rw [upd_same, unhide HPA, unhide HLL]; congr 2; unfold keepN; omega, rfl⟩, hN⟩
            clear HNW
            have HNW := hide hN
            clear hN
            obtain ⟨lf, hlf, hlf2, hlf3⟩ : ∃ lf : Nat, lf = min k z ∧ lf ≤ z ∧ lf ≤ 50 := ⟨_, rfl, by omega, by omega⟩
            rw [← hlf] at hA1
            have HLF : Hid (min (k : Int) (z : Int) = (lf : Int)) := by show min (k : Int) (z : Int) = (lf : Int); omega
            clear hlf
            go_wp2_with (refine wpList_min2 rfl (.tmp 89) (.tmp 90) 3 3 rfl _ _ _ _ rfl rfl ?_)
            rw [unhide HLF]
            have HD1 := hide hA1.1
            have HC1 := hide hA1.2.1
            have HX0 := hide hA1.2.2.1
            have HX1 := hide hA1.2.2.2
            clear hA1 HDE HCA
            refine (nFuse_dead (unhide HNW) (unhide HD1) 9 9).mono ?_
            rintro e x2 ⟨rfl, hw⟩
            subst hw
            go_wp2_with fail
            refine (nDead (unhide HNW)).mono ?_
            rintro e x3 ⟨rfl, hw⟩
            subst hw
            rw [unhide HD1]
            go_wp2_with fail
            refine (nAppend_dead (unhide HNW) (unhide HD1) 0 none 0 0).mono ?_
            rintro e x4 ⟨rfl, hN⟩
            clear HNW
            have HNW := hide hN
            clear hN
            go_wp2_with fail
            refine (nSync_dead (unhide HNW) (unhide HD1) 1).mono ?_
            rintro e x5 ⟨rfl, hN⟩
            clear HNW
            have HNW := hide hN
            clear hN
            go_wp2_with fail
            obtain ⟨Z, hZ, hmk⟩ := make32b
            clear hZ
            refine (nSyncHead_dead (unhide HNW) (unhide HD1)).mono ?_
            rintro e x6 ⟨rfl, hN⟩
            clear HNW
            have HNW := hide hN
            clear hN
            go_wp2_with fail
            refine (nWrite_dead ((unhide HNW).alloc _) (unhide HD1) 0 _ 32 32).mono ?_
            rintro e x7 ⟨rfl, hN⟩
            clear HNW
            have HNW := hide hN
            clear hN
            go_wp2_with fail
            refine (nTruncate_dead (unhide HNW) (unhide HD1) 0 0).mono ?_
            rintro e x8 ⟨rfl, hN⟩
            clear HNW
            have HNW := hide hN
            clear hN
            go_wp2_with fail
            refine (nFree_dead (unhide HNW) (unhide HD1)).mono ?_
            rintro e x9 ⟨rfl, hw⟩
            subst hw
            go_wp2_with fail
            refine (nRead_none (unhide HNW) 0 (.inl (unhide HD1))).mono ?_
            rintro e x10 ⟨rfl, hw⟩
            subst hw
            go_wp2_with fail
            refine (nHead_none (unhide HNW) 0 (.inl (unhide HD1))).mono ?_
            rintro e x11 ⟨rfl, hw⟩
            subst hw
            go_wp2_with fail
            refine (nCrash (unhide HNW) 1073741824 1073741824 1073741824 1073741824).mono ?_
            rintro e x12 ⟨rfl, hN⟩
            have hx0 := crash_all (unhide HNW).okA 0 (by omega)
            have hx1 := crash_all (unhide HNW).okA 1 (by omega)
            rw [unhide HX0] at hx0
            rw [unhide HX1] at hx1
            have hcap : (A1.crashed (kp 1073741824 1073741824 1073741824 1073741824)).cap = 2000 := unhide HC1
            have hcal : (A1.crashed (kp 1073741824 1073741824 1073741824 1073741824)).calls = -1 := rfl
            have hded : (A1.crashed (kp 1073741824 1073741824 1073741824 1073741824)).dead = false := rfl
            generalize A1.crashed (kp 1073741824 1073741824 1073741824 1073741824) = A2 at hN hx0 hx1 hcap hcal hded
            have HC2 := hide hcap
            have HA2 := hide hcal
            have HD2 := hide hded
            have HY0 := hide hx0
            have HY1 := hide hx1
            clear HNW hcap hcal hded hx0 hx1
            have HNW := hide hN
            clear hN
            go_wp2_with fail
            refine (nRead0 (unhide HNW) (unhide HD2)).mono ?_
            rintro e x13 ⟨r, rfl, hF, hN⟩
            rw [unhide HY0] at hF
            have HFR := hide hF.1
            clear HNW
            have HNW : Hid (Now D p A2 ws (x13.drewN 1)) := hN.drewN 1
            clear hN hF
            go_wp2_with fail
            obtain ⟨gb, hgb⟩ : ∃ gb, gb = A.x 0 ++ L.take lf := ⟨_, rfl⟩
            have HFG : Hid (Bytes x13 r gb) := by rw [hgb]; exact HFR
            obtain ⟨ra, rc, hr, hrl⟩ := (unhide HFG).form
            have hgl : gb.length = (j + 1) / 2 + lf := by
              rw [hgb, List.length_append, List.length_take]
              have := unhide HL0; have := unhide HLL; omega
            have HGB := hide hgb
            have HGL := hide hgl
            obtain ⟨m, hm⟩ : ∃ m : Nat, m = (j + 1) / 2 := ⟨_, rfl⟩
            obtain ⟨m2, hm2⟩ : ∃ m2 : Nat, m2 = j / 2 := ⟨_, rfl⟩
            have hgl1 : (gb.length : Int) = (m : Int) + (lf : Int) := by omega
            have hgl2 : ((A.x 1).length : Int) = (m2 : Int) := by have := unhide HL1; omega
            have hq1 : IntKind.i64.wrap ((j : Int) + 1) = (j : Int) + 1 := by rw [IntKind.wrap_i64]; omega
            have hq2 : Int.tdiv ((j : Int) + 1) 2 = (m : Int) := by rw [Int.tdiv_eq_ediv_of_nonneg (by omega)]; omega
            have hq3 : IntKind.i64.wrap (m : Int) = (m : Int) := by rw [IntKind.wrap_i64]; omega
            have hq4 : IntKind.i64.wrap ((m : Int) + (lf : Int)) = (m : Int) + (lf : Int) := by rw [IntKind.wrap_i64]; omega
            have hq5 : Int.tdiv (j : Int) 2 = (m2 : Int) := by rw [Int.tdiv_eq_ediv_of_nonneg (by omega)]; omega
            have hq6 : IntKind.i64.wrap (m2 : Int) = (m2 : Int) := by rw [IntKind.wrap_i64]; omega
            have hq7 : ((j : Int) + 1) / 2 = (m : Int) := by omega
            have hq8 : (j : Int) / 2 = (m2 : Int) := by omega
            have hb1 : (0 : Int) ≤ (m : Int) := by omega
            have hb2 : (m : Int) ≤ (gb.length : Int) := by omega
            have hb3 : (0 : Int) ≤ (lf : Int) := by omega
            have hb4 : (lf : Int) ≤ (z : Int) := by omega
            have HM := hide hm
            have HM2 := hide hm2
            have hb5 : gb.length ≤ rc := hrl
            subst hr
            have HSUM : Hid ((A.x 0 ++ L.take lf).length + (A.x 1).length ≤ 100) := by
              show (A.x 0 ++ L.take lf).length + (A.x 1).length ≤ 100
              rw [← hgb]; omega
            clear hgb hgl HFR hm hm2 hc00 hc01 hc10 hc11 hc20 hc21 htz htz' ht hk2 hn2 hlf2 hlf3 hrl
            obtain ⟨sa, sc, hsb, hs1, hs2⟩ := slice_low (lf := lf) (m := m) (unhide HFG) (by omega)
            have hgd : gb.drop m = L.take lf := by
              rw [unhide HGB, List.drop_left' (by have := unhide HL0; have := unhide HM; omega)]
            rw [hgd] at hsb
            have HSB := hide hsb
            clear hsb hgd
            go_region_held3 (fun _ => True) (trivial) (first
              | (go_at_call 15; refine (nDead (unhide HNW)).mono ?_; rintro e w' ⟨rfl, rfl⟩; rw [unhide HD2])
              | (go_at_call 18; refine (same_any _ _ (L.take lf) (L.take lf) _ (by exact (unhide HSB).kept (fun k _ _ => rfl)) (by exact ((unhide HNW).bytes ((unhide HBY).take (by omega) (unhide HLL)) ((unhide HOF).cut (fun h e => h (by rw [e]; exact List.take_nil))).not))).mono ?_; rintro e w' ⟨rfl, rfl⟩; rw [decide_eq_true (rfl : L.take lf = L.take lf)])
              | (go_at_call 16; refine (nRead1 (unhide HNW) (unhide HD2)).mono ?_; rintro e x14 ⟨r2, rfl, hF, hN⟩; rw [unhide HY1] at hF; obtain ⟨rb, rd, hr2, _⟩ := hF.1.form; subst hr2; clear HNW hF; have HNW := hide hN; clear hN))
            have HR : Hid (FcRel D p ws 100 x14) := ⟨A2, unhide HNW, unhide HC2, unhide HD2, unhide HA2, by rw [unhide HY0, unhide HY1]; exact unhide HSUM⟩
            clear HNW HC2 HD2 HA2 HY0 HY1 HSUM HSB hs1 hs2 HFG HGB HGL HM HM2
            go_wp2_with fail
            go_loopw [175] (fun i W => ∃ t : Nat, t ≤ 30 ∧ i = .int .i64 t ∧ FcRel D p ws (100 + t) W) (fun i _ => 30 - (intOf i).toNat)
            case atStart => exact ⟨0, Nat.zero_le _, rfl, unhide HR⟩
            case round =>
              obtain ⟨t3, ht3, rfl, hR⟩ := hrel
              obtain ⟨A3, hN, hcap, hded, hcal, hlen⟩ := hR
              have HNW := hide hN
              have HC := hide hcap
              have HDE := hide hded
              have HCA := hide hcal
              have HLE := hide hlen
              clear hN hcap hded hcal hlen HR
              by_cases hlt : t3 < 30
              · have hlt' : (t3 : Int) < 30 := by omega
                go_wp2_with fail
                refine (nAppend_lit1 (unhide HNW) (unhide HDE) (by rw [unhide HCA]; omega) 1 1 [1] (lit_bytes _ _ 1 _ rfl (by show 1 ≤ 1048576; omega) rfl) (by rw [unhide HC]; have := unhide HLE; show _ + ((1 : Nat) : Int) ≤ 2000; omega)).mono ?_
                rintro e y1 ⟨rfl, hN⟩
                have HFIN : Hid (FcRel D p ws (100 + (t3 + 1)) y1) := by
                  refine ⟨_, hN, unhide HC, unhide HDE, ?_, ?_⟩
                  · show A3.tick.calls = -1
                    rw [tick_calls (unhide HCA)]; exact unhide HCA
                  · show ((upd A3.x 1 (A3.x 1 ++ [1])) 0).length + ((upd A3.x 1 (A3.x 1 ++ [1])) 1).length ≤ _
                    rw [upd_same, upd_other _ _ (by omega), List.length_append]
                    have := unhide HLE
                    show _ + (_ + 1) ≤ _
                    omega
                clear hN HNW
                go_wp2_with fail
                exact ⟨⟨t3 + 1, by omega, by go_num, unhide HFIN⟩, by simp [intOf]; omega⟩
              · have hlt' : ¬ (t3 : Int) < 30 := by omega
                go_wp2_with fail
                refine (awake_any _).mono ?_
                rintro e y2 ⟨rfl, hA⟩
                have HA := hide hA
                clear hA
                go_wp2
                go_ret
                refine ⟨rfl, (unhide HBW).trans (((unhide HNW).toBelow (unhide HBW).size (unhide HDB)).trans ((unhide HA).mono ?_))⟩
                exact Nat.le_trans (unhide HBW).size (unhide HNW).size
          · go_wp2_with fail
            refine (nSync_kill0 (unhide HNW) (unhide HDE) (unhide HCA)).mono ?_
            rintro e x1 ⟨rfl, hN⟩
            obtain ⟨A1, hA1, hN⟩ : ∃ A1 : AD, (A1.dead = true ∧ A1.cap = 2000 ∧ A1.x 0 = A.x 0 ++ L.take 0 ∧ A1.x 1 = A.x 1) ∧ Now D p A1 ws x1 := ⟨{ A with dead := true }, ⟨rfl, unhide HC, by simp, rfl⟩, hN⟩
            clear HNW
            have HNW := hide hN
            clear hN
            go_wp2_with fail
            have HD1 := hide hA1.1
            have HC1 := hide hA1.2.1
            have HX0 := hide hA1.2.2.1
            have HX1 := hide hA1.2.2.2
            clear hA1 HDE HCA
            refine (nFuse_dead (unhide HNW) (unhide HD1) 9 9).mono ?_
            rintro e x2 ⟨rfl, hw⟩
            subst hw
            go_wp2_with fail
            refine (nDead (unhide HNW)).mono ?_
            rintro e x3 ⟨rfl, hw⟩
            subst hw
            rw [unhide HD1]
            go_wp2_with fail
            refine (nAppend_dead (unhide HNW) (unhide HD1) 0 none 0 0).mono ?_
            rintro e x4 ⟨rfl, hN⟩
            clear HNW
            have HNW := hide hN
            clear hN
            go_wp2_with fail
            refine (nSync_dead (unhide HNW) (unhide HD1) 1).mono ?_
            rintro e x5 ⟨rfl, hN⟩
            clear HNW
            have HNW := hide hN
            clear hN
            go_wp2_with fail
            obtain ⟨Z, hZ, hmk⟩ := make32b
            clear hZ
            refine (nSyncHead_dead (unhide HNW) (unhide HD1)).mono ?_
            rintro e x6 ⟨rfl, hN⟩
            clear HNW
            have HNW := hide hN
            clear hN
            go_wp2_with fail
            refine (nWrite_dead ((unhide HNW).alloc _) (unhide HD1) 0 _ 32 32).mono ?_
            rintro e x7 ⟨rfl, hN⟩
            clear HNW
            have HNW := hide hN
            clear hN
            go_wp2_with fail
            refine (nTruncate_dead (unhide HNW) (unhide HD1) 0 0).mono ?_
            rintro e x8 ⟨rfl, hN⟩
            clear HNW
            have HNW := hide hN
            clear hN
            go_wp2_with fail
            refine (nFree_dead (unhide HNW) (unhide HD1)).mono ?_
            rintro e x9 ⟨rfl, hw⟩
            subst hw
            go_wp2_with fail
            refine (nRead_none (unhide HNW) 0 (.inl (unhide HD1))).mono ?_
            rintro e x10 ⟨rfl, hw⟩
            subst hw
            go_wp2_with fail
            refine (nHead_none (unhide HNW) 0 (.inl (unhide HD1))).mono ?_
            rintro e x11 ⟨rfl, hw⟩
            subst hw
            go_wp2_with fail
            refine (nCrash (unhide HNW) 1073741824 1073741824 1073741824 1073741824).mono ?_
            rintro e x12 ⟨rfl, hN⟩
            have hx0 := crash_all (unhide HNW).okA 0 (by omega)
            have hx1 := crash_all (unhide HNW).okA 1 (by omega)
            rw [unhide HX0] at hx0
            rw [unhide HX1] at hx1
            have hcap : (A1.crashed (kp 1073741824 1073741824 1073741824 1073741824)).cap = 2000 := unhide HC1
            have hcal : (A1.crashed (kp 1073741824 1073741824 1073741824 1073741824)).calls = -1 := rfl
            have hded : (A1.crashed (kp 1073741824 1073741824 1073741824 1073741824)).dead = false := rfl
            generalize A1.crashed (kp 1073741824 1073741824 1073741824 1073741824) = A2 at hN hx0 hx1 hcap hcal hded
            have HC2 := hide hcap
            have HA2 := hide hcal
            have HD2 := hide hded
            have HY0 := hide hx0
            have HY1 := hide hx1
            clear HNW hcap hcal hded hx0 hx1
            have HNW := hide hN
            clear hN
            go_wp2_with fail
            refine (nRead0 (unhide HNW) (unhide HD2)).mono ?_
            rintro e x13 ⟨r, rfl, hF, hN⟩
            rw [unhide HY0] at hF
            have HFR := hide hF.1
            clear HNW
            have HNW : Hid (Now D p A2 ws (x13.drewN 1)) := hN.drewN 1
            clear hN hF
            go_wp2_with fail
            obtain ⟨gb, hgb⟩ : ∃ gb, gb = A.x 0 ++ L.take 0 := ⟨_, rfl⟩
            have HFG : Hid (Bytes x13 r gb) := by rw [hgb]; exact HFR
            obtain ⟨ra, rc, hr, hrl⟩ := (unhide HFG).form
            have hgl : gb.length = (j + 1) / 2 + 0 := by
              rw [hgb, List.length_append, List.length_take]
              have := unhide HL0; have := unhide HLL; omega
            have HGB := hide hgb
            have HGL := hide hgl
            obtain ⟨m, hm⟩ : ∃ m : Nat, m = (j + 1) / 2 := ⟨_, rfl⟩
            obtain ⟨m2, hm2⟩ : ∃ m2 : Nat, m2 = j / 2 := ⟨_, rfl⟩
            have hgl1 : (gb.length : Int) = (m : Int) := by omega
            have hgl2 : ((A.x 1).length : Int) = (m2 : Int) := by have := unhide HL1; omega
            have hq1 : IntKind.i64.wrap ((j : Int) + 1) = (j : Int) + 1 := by rw [IntKind.wrap_i64]; omega
            have hq2 : Int.tdiv ((j : Int) + 1) 2 = (m : Int) := by rw [Int.tdiv_eq_ediv_of_nonneg (by omega)]; omega
            have hq3 : IntKind.i64.wrap (m : Int) = (m : Int) := by rw [IntKind.wrap_i64]; omega
            have hq5 : Int.tdiv (j : Int) 2 = (m2 : Int) := by rw [Int.tdiv_eq_ediv_of_nonneg (by omega)]; omega
            have hq6 : IntKind.i64.wrap (m2 : Int) = (m2 : Int) := by rw [IntKind.wrap_i64]; omega
            have hq7 : ((j : Int) + 1) / 2 = (m : Int) := by omega
            have hq8 : (j : Int) / 2 = (m2 : Int) := by omega
            have hb1 : (0 : Int) ≤ (m : Int) := by omega
            have hb2 : (m : Int) ≤ (gb.length : Int) := by omega
            have hb4 : (0 : Int) ≤ (z : Int) := by omega
            have HM := hide hm
            have HM2 := hide hm2
            have hb5 : gb.length ≤ rc := hrl
            subst hr
            have HSUM : Hid ((A.x 0 ++ L.take 0).length + (A.x 1).length ≤ 100) := by
              show (A.x 0 ++ L.take 0).length + (A.x 1).length ≤ 100
              rw [← hgb]; omega
            clear hgb hgl HFR hm hm2 hc00 hc01 hc10 hc11 hc20 hc21 htz htz' ht hk2 hn2 hrl
            obtain ⟨sa, sc, hsb, hs1, hs2⟩ := slice_low (lf := 0) (m := m) (unhide HFG) (by omega)
            have hgd : gb.drop m = L.take 0 := by
              rw [unhide HGB, List.drop_left' (by have := unhide HL0; have := unhide HM; omega)]
            rw [hgd] at hsb
            have HSB := hide hsb
            clear hsb hgd
            go_region_held3 (fun _ => True) (trivial) (first
              | (go_at_call 15; refine (nDead (unhide HNW)).mono ?_; rintro e w' ⟨rfl, rfl⟩; rw [unhide HD2])
              | (go_at_call 18; refine (same_any _ _ (L.take 0) (L.take 0) _ (by exact (unhide HSB).kept (fun k _ _ => rfl)) (by exact ((unhide HNW).bytes ((unhide HBY).take (by omega) (unhide HLL)) ((unhide HOF).cut (fun h e => h (by rw [e]; exact List.take_nil))).not))).mono ?_; rintro e w' ⟨rfl, rfl⟩; rw [decide_eq_true (rfl : L.take 0 = L.take 0)])
              | (go_at_call 16; refine (nRead1 (unhide HNW) (unhide HD2)).mono ?_; rintro e x14 ⟨r2, rfl, hF, hN⟩; rw [unhide HY1] at hF; obtain ⟨rb, rd, hr2, _⟩ := hF.1.form; subst hr2; clear HNW hF; have HNW := hide hN; clear hN))
            have HR : Hid (FcRel D p ws 100 x14) := ⟨A2, unhide HNW, unhide HC2, unhide HD2, unhide HA2, by rw [unhide HY0, unhide HY1]; exact unhide HSUM⟩
            clear HNW HC2 HD2 HA2 HY0 HY1 HSUM HSB hs1 hs2 HFG HGB HGL HM HM2
            go_wp2_with fail
            go_loopw [175] (fun i W => ∃ t : Nat, t ≤ 30 ∧ i = .int .i64 t ∧ FcRel D p ws (100 + t) W) (fun i _ => 30 - (intOf i).toNat)
            case atStart => exact ⟨0, Nat.zero_le _, rfl, unhide HR⟩
            case round =>
              obtain ⟨t3, ht3, rfl, hR⟩ := hrel
              obtain ⟨A3, hN, hcap, hded, hcal, hlen⟩ := hR
              have HNW := hide hN
              have HC := hide hcap
              have HDE := hide hded
              have HCA := hide hcal
              have HLE := hide hlen
              clear hN hcap hded hcal hlen HR
              by_cases hlt : t3 < 30
              · have hlt' : (t3 : Int) < 30 := by omega
                go_wp2_with fail
                refine (nAppend_lit1 (unhide HNW) (unhide HDE) (by rw [unhide HCA]; omega) 1 1 [1] (lit_bytes _ _ 1 _ rfl (by show 1 ≤ 1048576; omega) rfl) (by rw [unhide HC]; have := unhide HLE; show _ + ((1 : Nat) : Int) ≤ 2000; omega)).mono ?_
                rintro e y1 ⟨rfl, hN⟩
                have HFIN : Hid (FcRel D p ws (100 + (t3 + 1)) y1) := by
                  refine ⟨_, hN, unhide HC, unhide HDE, ?_, ?_⟩
                  · show A3.tick.calls = -1
                    rw [tick_calls (unhide HCA)]; exact unhide HCA
                  · show ((upd A3.x 1 (A3.x 1 ++ [1])) 0).length + ((upd A3.x 1 (A3.x 1 ++ [1])) 1).length ≤ _
                    rw [upd_same, upd_other _ _ (by omega), List.length_append]
                    have := unhide HLE
                    show _ + (_ + 1) ≤ _
                    omega
                clear hN HNW
                go_wp2_with fail
                exact ⟨⟨t3 + 1, by omega, by go_num, unhide HFIN⟩, by simp [intOf]; omega⟩
              · have hlt' : ¬ (t3 : Int) < 30 := by omega
                go_wp2_with fail
                refine (awake_any _).mono ?_
                rintro e y2 ⟨rfl, hA⟩
                have HA := hide hA
                clear hA
                go_wp2
                go_ret
                refine ⟨rfl, (unhide HBW).trans (((unhide HNW).toBelow (unhide HBW).size (unhide HDB)).trans ((unhide HA).mono ?_))⟩
                exact Nat.le_trans (unhide HBW).size (unhide HNW).size
end Go.Proofs.Ytbpjlkjokafdnaa
