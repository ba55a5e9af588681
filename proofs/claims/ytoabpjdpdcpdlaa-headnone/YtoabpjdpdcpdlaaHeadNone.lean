/- HeadNone, walked over HeadOk. -/
import Derived.Test.YtoabpjdpdcpdlaaHeadKeep
namespace Go.Proofs.Ytoabpjdpdcpdlaa
open Go.RowKit

set_option maxRecDepth 100000 in
set_option maxHeartbeats 8000000 in
theorem headNone_any (ho : HeadOk) (ha : HeadAwake) (s e l : Nat) (w : World) (hf : (HeadD.mk s e l).fits) : Calls Try.prog 8 #[.agg #[.int .u64 ((s : Nat) : Int), .int .u64 ((e : Nat) : Int), .int .u8 ((l : Nat) : Int)]] w fun x w' => x = .returned (.bool true) ∧ Below w.heap.size w w' := by
  have HO := hide ho
  have HA := hide ha
  obtain ⟨hs, he, hl⟩ := hf
  simp only at hs he hl
  obtain ⟨t, ht⟩ : ∃ t, s % 1000 = t := ⟨_, rfl⟩
  obtain ⟨m, hm⟩ : ∃ m, l % 2 = m := ⟨_, rfl⟩
  have hs1 : (s : Int) % 1000 = (t : Int) := by omega
  have hl1 : (l : Int) % 2 = (m : Int) := by omega
  have HF : Hid (HeadD.mk t e m).fits := ⟨by show t < _; omega, he, by show m < _; omega⟩
  have HR : Hid ((HeadD.mk t e m).next.right = true) := HeadD.next_right (by show t + 1 < _; omega) (by show m ≤ 1; omega)
  have HB0 := hide ((Below.refl _ w).alloc (Nat.le_refl _) (.cells #[.int .u64 ((t : Nat) : Int), .int .u64 ((e : Nat) : Int), .int .u8 ((m : Nat) : Int)] 24))
  have HM0 : Hid (∀ q ∈ [(w.heap.size, Obj.cells #[.int .u64 ((t : Nat) : Int), .int .u64 ((e : Nat) : Int), .int .u8 ((m : Nat) : Int)] 24 (0, 0))], (w.alloc (.cells #[.int .u64 ((t : Nat) : Int), .int .u64 ((e : Nat) : Int), .int .u8 ((m : Nat) : Int)] 24)).heap[q.1]? = some q.2) := fun q hq => by
    rw [List.mem_singleton.1 hq]; exact heap_alloc_new w _
  have hz := run_zeroDisk
  clear ho ha
  go_enter Try.func8, Try.ntmps8
  go_upto_region 2 with fail
  rw [hs1, hl1]
  have HT := hide (And.intro ht hm)
  clear ht hm hs1 hl1 hs he hl
  generalize w.alloc (.cells #[.int .u64 ((t : Nat) : Int), .int .u64 ((e : Nat) : Int), .int .u8 ((m : Nat) : Int)] 24) = W1 at *
  go_wp2_with fail
  refine (kbNew (unhide HB0) (unhide HM0) 5 (by decide) (by decide)).mono ?_
  rintro x W2 ⟨p, rfl, hk2⟩
  have HK2 := hide hk2
  clear hk2 HM0 HB0
  go_wp2_with fail
  refine (kbFuse (unhide HK2) rfl 0 0 (by decide)).mono ?_
  rintro x W3 ⟨rfl, hk3⟩
  have HK3 := hide hk3
  clear hk3 HK2
  go_wp2_with fail
  refine (kbSyncHead (unhide HK3)).mono ?_
  rintro x W4 ⟨rfl, hk4⟩
  obtain ⟨A, hA⟩ : ∃ A, shA ((AD.new 5).fused 0 0) = A := ⟨_, rfl⟩
  have HD : Hid (A.dead = true) := by rw [← hA]; rfl
  rw [hA] at hk4
  have HK4 := hide hk4
  clear hk4 HK3 hA
  go_upto_region 7 with fail
  have HK5 := hide ((unhide HK4).new (.cells zDisk 79))
  have HK6 := hide ((unhide HK5).new (.cells #[.pointer none, .pointer (some ⟨W4.heap.size, 0, none⟩), .pointer (some ⟨p, 0, none⟩)] 36))
  go_upto_region 8 with fail
  clear hz HK4 HK5
  have esz : (W4.alloc (.cells zDisk 79)).heap.size = W4.heap.size + 1 := by simp
  rw [esz] at HK6
  clear esz
  generalize (W4.alloc (.cells zDisk 79)).alloc (.cells #[.pointer none, .pointer (some ⟨W4.heap.size, 0, none⟩), .pointer (some ⟨p, 0, none⟩)] 36) = WL at *
  generalize W4.heap.size = Z at *
  have HSE : Hid (saveE A ⟨t, e, m⟩ = 3) := by show _ = _; simp [saveE, unhide HR, chE, unhide HD]
  have HSH : Hid (saveH A ⟨t, e, m⟩ = ⟨0, 0, 0⟩) := by show _ = _; simp [saveH, unhide HSE]
  have HSD : Hid (saveD A ⟨t, e, m⟩ = A) := by show _ = _; simp [saveD, unhide HR, chE, unhide HD, wrA]
  have HLE : Hid (loadE A = 3) := by show _ = _; simp [loadE, unhide HD]
  have HLH : Hid (loadH A = ⟨0, 0, 0⟩) := by show _ = _; simp [loadH, unhide HD]
  go_loopw [41] (fun i W => ∃ j : Nat, j ≤ 3 ∧ i = .int .i64 j ∧ Kb w W [(Z + 1, Obj.cells #[.pointer none, .pointer (some ⟨Z, 0, none⟩), .pointer (some ⟨p, 0, none⟩)] 36 (0, 0)), (Z, Obj.cells zDisk 79 (0, 0)), (w.heap.size, Obj.cells #[.int .u64 ((t : Nat) : Int), .int .u64 ((e : Nat) : Int), .int .u8 ((m : Nat) : Int)] 24 (0, 0))] p A) (fun i _ => 3 - (intOf i).toNat)
  case atStart => exact ⟨0, by omega, rfl, unhide HK6⟩
  case round =>
    obtain ⟨j, hj, rfl, hK⟩ := hrel
    have HR0 := hide hK
    clear hK HK6
    rcases (show j = 0 ∨ j = 1 ∨ j = 2 ∨ j = 3 by omega) with rfl | rfl | rfl | rfl
    · have s0 : wr.cell? ⟨Z + 1, 0, none⟩ = some (.pointer none) := (unhide HR0).cell (g := Z + 1) (cs := #[.pointer none, .pointer (some ⟨Z, 0, none⟩), .pointer (some ⟨p, 0, none⟩)]) (t := 36) (by simp) 0
      have c0 : wr.cell? ⟨w.heap.size, 0, none⟩ = some (.int .u64 ((t : Nat) : Int)) := (unhide HR0).cell (g := w.heap.size) (cs := #[.int .u64 ((t : Nat) : Int), .int .u64 ((e : Nat) : Int), .int .u8 ((m : Nat) : Int)]) (t := 24) (by simp) 0
      have c1 : wr.cell? ⟨w.heap.size, 1, none⟩ = some (.int .u64 ((e : Nat) : Int)) := (unhide HR0).cell (g := w.heap.size) (cs := #[.int .u64 ((t : Nat) : Int), .int .u64 ((e : Nat) : Int), .int .u8 ((m : Nat) : Int)]) (t := 24) (by simp) 1
      have c2 : wr.cell? ⟨w.heap.size, 2, none⟩ = some (.int .u8 ((m : Nat) : Int)) := (unhide HR0).cell (g := w.heap.size) (cs := #[.int .u64 ((t : Nat) : Int), .int .u64 ((e : Nat) : Int), .int .u8 ((m : Nat) : Int)]) (t := 24) (by simp) 2
      go_wp2_with fail
      refine ((unhide HO).saveNone (.pointer none) _ t e m (.inl rfl) (unhide HF) (unhide HR)).mono ?_
      rintro x W5 ⟨rfl, hb5⟩
      have HR1 := hide (((unhide HR0).later hb5).new (.cells #[.int .u64 0, .int .u64 0, .int .u8 0] 24))
      clear hb5
      clear s0 c0 c1 c2
      go_upto_region 14 with fail
      generalize W5.alloc (.cells #[.int .u64 0, .int .u64 0, .int .u8 0] 24) = W6 at *
      generalize W5.heap.size = g1 at *
      go_wp2_with fail
      refine ((unhide HO).loadNone (.pointer none) _ (.inl rfl)).mono ?_
      rintro x W7 ⟨rfl, hb7⟩
      have HR2 := hide (((unhide HR1).later hb7).new (.cells #[.int .u64 0, .int .u64 0, .int .u8 0] 24))
      clear hb7
      go_upto_region 15 with fail
      generalize W7.alloc (.cells #[.int .u64 0, .int .u64 0, .int .u8 0] 24) = W8 at *
      generalize W7.heap.size = g2 at *
      have x0 : W8.cell? ⟨g1, 0, none⟩ = some (.int .u64 0) := (unhide HR2).cell (g := g1) (cs := #[.int .u64 0, .int .u64 0, .int .u8 0]) (t := 24) (by simp) 0
      have x1 : W8.cell? ⟨g1, 1, none⟩ = some (.int .u64 0) := (unhide HR2).cell (g := g1) (cs := #[.int .u64 0, .int .u64 0, .int .u8 0]) (t := 24) (by simp) 1
      have x2 : W8.cell? ⟨g1, 2, none⟩ = some (.int .u8 0) := (unhide HR2).cell (g := g1) (cs := #[.int .u64 0, .int .u64 0, .int .u8 0]) (t := 24) (by simp) 2
      have y0 : W8.cell? ⟨g2, 0, none⟩ = some (.int .u64 0) := (unhide HR2).cell (g := g2) (cs := #[.int .u64 0, .int .u64 0, .int .u8 0]) (t := 24) (by simp) 0
      have y1 : W8.cell? ⟨g2, 1, none⟩ = some (.int .u64 0) := (unhide HR2).cell (g := g2) (cs := #[.int .u64 0, .int .u64 0, .int .u8 0]) (t := 24) (by simp) 1
      have y2 : W8.cell? ⟨g2, 2, none⟩ = some (.int .u8 0) := (unhide HR2).cell (g := g2) (cs := #[.int .u64 0, .int .u64 0, .int .u8 0]) (t := 24) (by simp) 2
      go_wp2_with fail
      exact ⟨⟨1, by omega, rfl, (unhide HR2).less (by simp)⟩, by simp [intOf]⟩
    · have s0 : wr.cell? ⟨Z + 1, 1, none⟩ = some (.pointer (some ⟨Z, 0, none⟩)) := (unhide HR0).cell (g := Z + 1) (cs := #[.pointer none, .pointer (some ⟨Z, 0, none⟩), .pointer (some ⟨p, 0, none⟩)]) (t := 36) (by simp) 1
      have c0 : wr.cell? ⟨w.heap.size, 0, none⟩ = some (.int .u64 ((t : Nat) : Int)) := (unhide HR0).cell (g := w.heap.size) (cs := #[.int .u64 ((t : Nat) : Int), .int .u64 ((e : Nat) : Int), .int .u8 ((m : Nat) : Int)]) (t := 24) (by simp) 0
      have c1 : wr.cell? ⟨w.heap.size, 1, none⟩ = some (.int .u64 ((e : Nat) : Int)) := (unhide HR0).cell (g := w.heap.size) (cs := #[.int .u64 ((t : Nat) : Int), .int .u64 ((e : Nat) : Int), .int .u8 ((m : Nat) : Int)]) (t := 24) (by simp) 1
      have c2 : wr.cell? ⟨w.heap.size, 2, none⟩ = some (.int .u8 ((m : Nat) : Int)) := (unhide HR0).cell (g := w.heap.size) (cs := #[.int .u64 ((t : Nat) : Int), .int .u64 ((e : Nat) : Int), .int .u8 ((m : Nat) : Int)]) (t := 24) (by simp) 2
      go_wp2_with fail
      refine ((unhide HO).saveNone (.pointer (some ⟨Z, 0, none⟩)) _ t e m (.inr ⟨Z, rfl, by rw [(unhide HR0).cell (g := Z) (cs := zDisk) (t := 79) (by simp) 0]; kernel_rfl⟩) (unhide HF) (unhide HR)).mono ?_
      rintro x W5 ⟨rfl, hb5⟩
      have HR1 := hide (((unhide HR0).later hb5).new (.cells #[.int .u64 0, .int .u64 0, .int .u8 0] 24))
      clear hb5
      clear s0 c0 c1 c2
      go_upto_region 14 with fail
      generalize W5.alloc (.cells #[.int .u64 0, .int .u64 0, .int .u8 0] 24) = W6 at *
      generalize W5.heap.size = g1 at *
      go_wp2_with fail
      refine ((unhide HO).loadNone (.pointer (some ⟨Z, 0, none⟩)) _ (.inr ⟨Z, rfl, by rw [(unhide HR1).cell (g := Z) (cs := zDisk) (t := 79) (by simp) 0]; kernel_rfl⟩)).mono ?_
      rintro x W7 ⟨rfl, hb7⟩
      have HR2 := hide (((unhide HR1).later hb7).new (.cells #[.int .u64 0, .int .u64 0, .int .u8 0] 24))
      clear hb7
      go_upto_region 15 with fail
      generalize W7.alloc (.cells #[.int .u64 0, .int .u64 0, .int .u8 0] 24) = W8 at *
      generalize W7.heap.size = g2 at *
      have x0 : W8.cell? ⟨g1, 0, none⟩ = some (.int .u64 0) := (unhide HR2).cell (g := g1) (cs := #[.int .u64 0, .int .u64 0, .int .u8 0]) (t := 24) (by simp) 0
      have x1 : W8.cell? ⟨g1, 1, none⟩ = some (.int .u64 0) := (unhide HR2).cell (g := g1) (cs := #[.int .u64 0, .int .u64 0, .int .u8 0]) (t := 24) (by simp) 1
      have x2 : W8.cell? ⟨g1, 2, none⟩ = some (.int .u8 0) := (unhide HR2).cell (g := g1) (cs := #[.int .u64 0, .int .u64 0, .int .u8 0]) (t := 24) (by simp) 2
      have y0 : W8.cell? ⟨g2, 0, none⟩ = some (.int .u64 0) := (unhide HR2).cell (g := g2) (cs := #[.int .u64 0, .int .u64 0, .int .u8 0]) (t := 24) (by simp) 0
      have y1 : W8.cell? ⟨g2, 1, none⟩ = some (.int .u64 0) := (unhide HR2).cell (g := g2) (cs := #[.int .u64 0, .int .u64 0, .int .u8 0]) (t := 24) (by simp) 1
      have y2 : W8.cell? ⟨g2, 2, none⟩ = some (.int .u8 0) := (unhide HR2).cell (g := g2) (cs := #[.int .u64 0, .int .u64 0, .int .u8 0]) (t := 24) (by simp) 2
      go_wp2_with fail
      exact ⟨⟨2, by omega, rfl, (unhide HR2).less (by simp)⟩, by simp [intOf]⟩
    · have s0 : wr.cell? ⟨Z + 1, 2, none⟩ = some (.pointer (some ⟨p, 0, none⟩)) := (unhide HR0).cell (g := Z + 1) (cs := #[.pointer none, .pointer (some ⟨Z, 0, none⟩), .pointer (some ⟨p, 0, none⟩)]) (t := 36) (by simp) 2
      have c0 : wr.cell? ⟨w.heap.size, 0, none⟩ = some (.int .u64 ((t : Nat) : Int)) := (unhide HR0).cell (g := w.heap.size) (cs := #[.int .u64 ((t : Nat) : Int), .int .u64 ((e : Nat) : Int), .int .u8 ((m : Nat) : Int)]) (t := 24) (by simp) 0
      have c1 : wr.cell? ⟨w.heap.size, 1, none⟩ = some (.int .u64 ((e : Nat) : Int)) := (unhide HR0).cell (g := w.heap.size) (cs := #[.int .u64 ((t : Nat) : Int), .int .u64 ((e : Nat) : Int), .int .u8 ((m : Nat) : Int)]) (t := 24) (by simp) 1
      have c2 : wr.cell? ⟨w.heap.size, 2, none⟩ = some (.int .u8 ((m : Nat) : Int)) := (unhide HR0).cell (g := w.heap.size) (cs := #[.int .u64 ((t : Nat) : Int), .int .u64 ((e : Nat) : Int), .int .u8 ((m : Nat) : Int)]) (t := 24) (by simp) 2
      go_wp2_with fail
      refine (kbSave (unhide HO) (unhide HR0) t e m 0 0 0 3 (unhide HF) (unhide HSE) (unhide HSH)).mono ?_
      rintro x W5 ⟨rfl, hk5⟩
      rw [unhide HSD] at hk5
      have HR1 := hide (hk5.new (.cells #[.int .u64 0, .int .u64 0, .int .u8 0] 24))
      clear hk5
      clear s0 c0 c1 c2
      go_upto_region 14 with fail
      generalize W5.alloc (.cells #[.int .u64 0, .int .u64 0, .int .u8 0] 24) = W6 at *
      generalize W5.heap.size = g1 at *
      go_wp2_with fail
      refine (kbLoad (unhide HO) (unhide HR1) 0 0 0 3 (unhide HLE) (unhide HLH)).mono ?_
      rintro x W7 ⟨rfl, hk7⟩
      have HR2 := hide (hk7.new (.cells #[.int .u64 0, .int .u64 0, .int .u8 0] 24))
      clear hk7
      go_upto_region 15 with fail
      generalize W7.alloc (.cells #[.int .u64 0, .int .u64 0, .int .u8 0] 24) = W8 at *
      generalize W7.heap.size = g2 at *
      have x0 : W8.cell? ⟨g1, 0, none⟩ = some (.int .u64 0) := (unhide HR2).cell (g := g1) (cs := #[.int .u64 0, .int .u64 0, .int .u8 0]) (t := 24) (by simp) 0
      have x1 : W8.cell? ⟨g1, 1, none⟩ = some (.int .u64 0) := (unhide HR2).cell (g := g1) (cs := #[.int .u64 0, .int .u64 0, .int .u8 0]) (t := 24) (by simp) 1
      have x2 : W8.cell? ⟨g1, 2, none⟩ = some (.int .u8 0) := (unhide HR2).cell (g := g1) (cs := #[.int .u64 0, .int .u64 0, .int .u8 0]) (t := 24) (by simp) 2
      have y0 : W8.cell? ⟨g2, 0, none⟩ = some (.int .u64 0) := (unhide HR2).cell (g := g2) (cs := #[.int .u64 0, .int .u64 0, .int .u8 0]) (t := 24) (by simp) 0
      have y1 : W8.cell? ⟨g2, 1, none⟩ = some (.int .u64 0) := (unhide HR2).cell (g := g2) (cs := #[.int .u64 0, .int .u64 0, .int .u8 0]) (t := 24) (by simp) 1
      have y2 : W8.cell? ⟨g2, 2, none⟩ = some (.int .u8 0) := (unhide HR2).cell (g := g2) (cs := #[.int .u64 0, .int .u64 0, .int .u8 0]) (t := 24) (by simp) 2
      go_wp2_with fail
      exact ⟨⟨3, by omega, rfl, (unhide HR2).less (by simp)⟩, by simp [intOf]⟩
    · have HBW : Hid (Below w.heap.size w wr) := (unhide HR0).bb
      clear HR0
      go_wp2_with fail
      refine (kbNew (M := []) (unhide HBW) (fun q hq => by cases hq) 5 (by decide) (by decide)).mono ?_
      rintro x W5 ⟨p2, rfl, hk5⟩
      have HK5 := hide hk5
      clear hk5
      go_wp2_with fail
      refine (kbSave (unhide HO) (unhide HK5) 18446744073709551615 0 0 0 0 0 50 ⟨by decide, by decide, by decide⟩ (by rfl) (by rfl)).mono ?_
      rintro x W6 ⟨rfl, hk6⟩
      have HK6 := hide ((show Kb w W6 [] p2 (AD.new 5) from hk6).new (.cells #[.int .u64 0, .int .u64 0, .int .u8 0] 24))
      clear hk6 HK5
      go_upto_region 20 with fail
      generalize W6.alloc (.cells #[.int .u64 0, .int .u64 0, .int .u8 0] 24) = W7 at *
      go_wp2_with fail
      refine (kbLoad (unhide HO) (unhide HK6) 0 0 0 50 ((Slots.new 5).load0 rfl).1 ((Slots.new 5).load0 rfl).2).mono ?_
      rintro x W8 ⟨rfl, hk8⟩
      have HK8 := hide (hk8.new (.cells #[.int .u64 0, .int .u64 0, .int .u8 0] 24))
      clear hk8 HK6
      go_upto_region 21 with fail
      generalize W8.alloc (.cells #[.int .u64 0, .int .u64 0, .int .u8 0] 24) = W9 at *
      go_wp2_with fail
      refine (unhide HA W9).mono ?_
      rintro x W10 ⟨rfl, hb10⟩
      have HFIN : Hid (Below w.heap.size w W10) := (unhide HK8).bb.trans (hb10.mono (unhide HK8).bb.size)
      clear hb10
      go_wp2_with fail
      go_ret
      exact ⟨rfl, unhide HFIN⟩
end Go.Proofs.Ytoabpjdpdcpdlaa
