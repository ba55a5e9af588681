/- HeadCrash, walked over HeadOk. -/
import Derived.Test.YtoabpjdpdcpdlaaHeadKeep
import Derived.Test.YtoabpjdpdcpdlaaHeadRows
import Derived.Test.YtoabpjdpdcpdlaaHeadTornM
namespace Go.Proofs.Ytoabpjdpdcpdlaa
open Go.RowKit

set_option maxRecDepth 100000 in
set_option maxHeartbeats 8000000 in
theorem headCrash_out (ho : HeadOk) (ha : HeadAwake) (a : Option Addr) (n c x1 x2 : Nat) (w : World) (hn : 20 < n) :
    Calls Try.prog 6 #[.slice a n c, .int .u8 ((x1 : Nat) : Int), .int .u8 ((x2 : Nat) : Int)] w fun x w' => x = .returned (.bool true) ∧ Below w.heap.size w w' := by
  have HO := hide ho
  have HA := hide ha
  clear ho ha
  have l1 : (n : Int) > 20 := by omega
  clear hn
  go_enter Try.func6, Try.ntmps6
  go_wp2_with fail
  refine (kbNew (M := []) (Below.refl _ w) (fun q hq => by cases hq) 0 (by decide) (by decide)).mono ?_
  rintro x W2 ⟨p, rfl, hk2⟩
  have HK2 := hide hk2
  clear hk2
  go_wp2_with fail
  refine (unhide HA _).mono ?_
  rintro x W10 ⟨rfl, hb10⟩
  have HFIN : Hid (Below w.heap.size w W10) := (unhide HK2).bb.trans (hb10.mono (unhide HK2).bb.size)
  clear hb10
  go_wp2_with fail
  go_ret
  exact ⟨rfl, unhide HFIN⟩

set_option maxRecDepth 100000 in
set_option maxHeartbeats 8000000 in
theorem headCrash_in (ho : HeadOk) (ha : HeadAwake) (a : Option Addr) (n c x1 x2 : Nat) (hs : Nat → HeadD) (w : World) (hx : HeadsAt w a n hs) (hn : n ≤ 20) (h1 : x1 < 256) (h2 : x2 < 256) :
    Calls Try.prog 6 #[.slice a n c, .int .u8 ((x1 : Nat) : Int), .int .u8 ((x2 : Nat) : Int)] w fun x w' => x = .returned (.bool true) ∧ Below w.heap.size w w' := by
  have HO := hide ho
  have HA := hide ha
  have HX := hide hx
  clear ho ha hx
  have l1 : ¬ (n : Int) > 20 := by omega
  go_enter Try.func6, Try.ntmps6
  go_wp2_with fail
  refine (kbNew (M := []) (Below.refl _ w) (fun q hq => by cases hq) 0 (by decide) (by decide)).mono ?_
  rintro x W2 ⟨p, rfl, hk2⟩
  have HK2 := hide (hk2.new (.cells #[.int .u64 0, .int .u64 0, .int .u8 0] 24))
  have HG : Hid (w.heap.size ≤ W2.heap.size) := hk2.bb.size
  clear hk2
  go_upto_region 5 with fail
  generalize W2.alloc (.cells #[.int .u64 0, .int .u64 0, .int .u8 0] 24) = W3 at *
  generalize W2.heap.size = g at *
  go_wp2_with fail
  go_loopw [44] (fun i W => ∃ (j s e l : Nat) (A : AD) (prev : HeadD), j ≤ n ∧ i = .int .i64 ((j : Nat) : Int) ∧ (s = j ∧ l ≤ 1) ∧ Slots A ⟨s, e, l⟩ prev ∧ Kb w W [(g, Obj.cells #[.int .u64 ((s : Nat) : Int), .int .u64 ((e : Nat) : Int), .int .u8 ((l : Nat) : Int)] 24 (0, 0))] p A) (fun i _ => n - (intOf i).toNat)
  case atStart => exact ⟨0, 0, 0, 0, _, _, by omega, rfl, ⟨rfl, by omega⟩, Slots.new 0, unhide HK2⟩
  case round =>
    obtain ⟨j, s, e, l, A, prev, hj, rfl, hjs, hS, hK⟩ := hrel
    have HJS := hide hjs
    have HS := hide hS
    have HK := hide hK
    clear hS hK HK2 hjs
    by_cases hlt : j < n
    · obtain ⟨b, o, rfl, hxx⟩ := unhide HX (by omega)
      obtain ⟨q0, q1, q2, qf⟩ := hxx j hlt
      obtain ⟨⟨s0, e0, l0⟩, hh⟩ : ∃ h, hs j = h := ⟨_, rfl⟩
      rw [hh] at q0 q1 q2 qf
      have k0 := ((unhide HK).bb.cell (p := ⟨b, o + 3 * j, none⟩) (World.block_lt_of_cell? _ _ q0)).trans q0
      have k1' := ((unhide HK).bb.cell (p := ⟨b, o + 3 * j + 1, none⟩) (World.block_lt_of_cell? _ _ q1)).trans q1
      have k2 := ((unhide HK).bb.cell (p := ⟨b, o + 3 * j + 2, none⟩) (World.block_lt_of_cell? _ _ q2)).trans q2
      rw [Nat.mul_comm 3 j] at k0 k1' k2
      have HQF := hide qf
      clear q0 q1 q2 hh hxx qf
      have HEX : Hid (e0 < 18446744073709551616) := (unhide HQF).2.1
      have hl0 : l0 < 256 := (unhide HQF).2.2
      obtain ⟨m, hm⟩ : ∃ m, l0 % 2 = m := ⟨_, rfl⟩
      have hl1 : (l0 : Int) % 2 = (m : Int) := by omega
      have HMM : Hid (m ≤ 1) := by show m ≤ 1; omega
      obtain ⟨kk, hkk⟩ : ∃ kk, kk = s + 1 := ⟨_, rfl⟩
      have hsj := (unhide HJS).1
      have HFT : Hid (HeadD.mk s e0 m).fits := ⟨by show s < _; omega, unhide HEX, by show m < 256; omega⟩
      have HSV := hide ((unhide HS).save (h := ⟨s, e0, m⟩) rfl (unhide HFT) (unhide HMM) (by show s + 1 < _; omega))
      have HNX : Hid ((HeadD.mk s e0 m).next = ⟨kk, e0, m⟩) := by
        show HeadD.mk ((s + 1) % 18446744073709551616) e0 m = _
        rw [Nat.mod_eq_of_lt (by omega), hkk]
      have HKK := hide hkk
      have hws : IntKind.u64.wrap ((s : Int) + 1) = ((kk : Nat) : Int) := by rw [IntKind.wrap_u64]; omega
      have m1 : (j : Int) < (n : Int) := by omega
      have m2 : ¬ (j : Int) < 0 := by omega
      have HMD := hide hm
      have HSJ := hide hsj
      clear hm hkk hsj
      have HK1 := hide ((unhide HK).new (.cells #[.int .u64 ((s0 : Nat) : Int), .int .u64 ((e0 : Nat) : Int), .int .u8 ((l0 : Nat) : Int)] 24))
      have HG1 : Hid (g < wr.heap.size ∧ w.heap.size ≤ wr.heap.size) := ⟨(Array.getElem?_eq_some_iff.1 ((unhide HK).ce _ (List.mem_cons_self ..))).1, (unhide HK).bb.size⟩
      go_upto_region 8 with fail
      generalize wr.alloc (.cells #[.int .u64 ((s0 : Nat) : Int), .int .u64 ((e0 : Nat) : Int), .int .u8 ((l0 : Nat) : Int)] 24) = W4 at *
      generalize wr.heap.size = gh at *
      clear k0 k1' k2
      have c0 : W4.cell? ⟨g, 0, none⟩ = some (.int .u64 ((s : Nat) : Int)) := (unhide HK1).cell (g := g) (cs := #[.int .u64 ((s : Nat) : Int), .int .u64 ((e : Nat) : Int), .int .u8 ((l : Nat) : Int)]) (t := 24) (by simp) 0
      have c1 : W4.cell? ⟨g, 1, none⟩ = some (.int .u64 ((e : Nat) : Int)) := (unhide HK1).cell (g := g) (cs := #[.int .u64 ((s : Nat) : Int), .int .u64 ((e : Nat) : Int), .int .u8 ((l : Nat) : Int)]) (t := 24) (by simp) 1
      have c2 : W4.cell? ⟨g, 2, none⟩ = some (.int .u8 ((l : Nat) : Int)) := (unhide HK1).cell (g := g) (cs := #[.int .u64 ((s : Nat) : Int), .int .u64 ((e : Nat) : Int), .int .u8 ((l : Nat) : Int)]) (t := 24) (by simp) 2
      have d0 : W4.cell? ⟨gh, 0, none⟩ = some (.int .u64 ((s0 : Nat) : Int)) := (unhide HK1).cell (g := gh) (cs := #[.int .u64 ((s0 : Nat) : Int), .int .u64 ((e0 : Nat) : Int), .int .u8 ((l0 : Nat) : Int)]) (t := 24) (by simp) 0
      have d1 : W4.cell? ⟨gh, 1, none⟩ = some (.int .u64 ((e0 : Nat) : Int)) := (unhide HK1).cell (g := gh) (cs := #[.int .u64 ((s0 : Nat) : Int), .int .u64 ((e0 : Nat) : Int), .int .u8 ((l0 : Nat) : Int)]) (t := 24) (by simp) 1
      have d2 : W4.cell? ⟨gh, 2, none⟩ = some (.int .u8 ((l0 : Nat) : Int)) := (unhide HK1).cell (g := gh) (cs := #[.int .u64 ((s0 : Nat) : Int), .int .u64 ((e0 : Nat) : Int), .int .u8 ((l0 : Nat) : Int)]) (t := 24) (by simp) 2
      have df0 := (unhide HK1).frozen (g := gh) (cs := #[.int .u64 ((s0 : Nat) : Int), .int .u64 ((e0 : Nat) : Int), .int .u8 ((l0 : Nat) : Int)]) (t := 24) (by simp) 0
      have df1 := (unhide HK1).frozen (g := gh) (cs := #[.int .u64 ((s0 : Nat) : Int), .int .u64 ((e0 : Nat) : Int), .int .u8 ((l0 : Nat) : Int)]) (t := 24) (by simp) 1
      have df2 := (unhide HK1).frozen (g := gh) (cs := #[.int .u64 ((s0 : Nat) : Int), .int .u64 ((e0 : Nat) : Int), .int .u8 ((l0 : Nat) : Int)]) (t := 24) (by simp) 2
      have HK2 := hide (((unhide HK1).set (unhide HG1).2 (by intro q hq; rw [List.mem_singleton.1 hq]; have := (unhide HG1).1; show g ≠ gh; omega) 0 (.int .u64 ((s : Nat) : Int))).set (unhide HG1).2 (by intro q hq; rw [List.mem_singleton.1 hq]; have := (unhide HG1).1; show g ≠ gh; omega) 2 (.int .u8 ((m : Nat) : Int)))
      replace HK2 : Hid (Kb w ((W4.setCell ⟨gh, 0, none⟩ (.int .u64 ((s : Nat) : Int))).setCell ⟨gh, 2, none⟩ (.int .u8 ((m : Nat) : Int))) [(gh, Obj.cells #[.int .u64 ((s : Nat) : Int), .int .u64 ((e0 : Nat) : Int), .int .u8 ((m : Nat) : Int)] 24 (0, 0)), (g, Obj.cells #[.int .u64 ((s : Nat) : Int), .int .u64 ((e : Nat) : Int), .int .u8 ((l : Nat) : Int)] 24 (0, 0))] p A) := HK2
      go_upto_region 9 with fail
      rw [hl1]
      generalize (W4.setCell ⟨gh, 0, none⟩ (.int .u64 ((s : Nat) : Int))).setCell ⟨gh, 2, none⟩ (.int .u8 ((m : Nat) : Int)) = W5 at *
      clear c0 c1 c2 d0 d1 d2 df0 df1 df2 hl1 HK1
      have d0 : W5.cell? ⟨gh, 0, none⟩ = some (.int .u64 ((s : Nat) : Int)) := (unhide HK2).cell (g := gh) (cs := #[.int .u64 ((s : Nat) : Int), .int .u64 ((e0 : Nat) : Int), .int .u8 ((m : Nat) : Int)]) (t := 24) (by simp) 0
      have d1 : W5.cell? ⟨gh, 1, none⟩ = some (.int .u64 ((e0 : Nat) : Int)) := (unhide HK2).cell (g := gh) (cs := #[.int .u64 ((s : Nat) : Int), .int .u64 ((e0 : Nat) : Int), .int .u8 ((m : Nat) : Int)]) (t := 24) (by simp) 1
      have d2 : W5.cell? ⟨gh, 2, none⟩ = some (.int .u8 ((m : Nat) : Int)) := (unhide HK2).cell (g := gh) (cs := #[.int .u64 ((s : Nat) : Int), .int .u64 ((e0 : Nat) : Int), .int .u8 ((m : Nat) : Int)]) (t := 24) (by simp) 2
      go_wp2_with fail
      refine (kbSave (unhide HO) (unhide HK2) s e0 m kk e0 m 0 (unhide HFT) (unhide HSV).1 ((unhide HSV).2.1.trans (unhide HNX))).mono ?_
      rintro x W6 ⟨rfl, hk6⟩
      have HK6 := hide (hk6.new (.cells #[.int .u64 ((kk : Nat) : Int), .int .u64 ((e0 : Nat) : Int), .int .u8 ((m : Nat) : Int)] 24))
      clear hk6 d0 d1 d2 HK2
      go_upto_region 10 with fail
      generalize W6.alloc (.cells #[.int .u64 ((kk : Nat) : Int), .int .u64 ((e0 : Nat) : Int), .int .u8 ((m : Nat) : Int)] 24) = W7 at *
      generalize W6.heap.size = gx at *
      have xc0 : W7.cell? ⟨gx, 0, none⟩ = some (.int .u64 ((kk : Nat) : Int)) := (unhide HK6).cell (g := gx) (cs := #[.int .u64 ((kk : Nat) : Int), .int .u64 ((e0 : Nat) : Int), .int .u8 ((m : Nat) : Int)]) (t := 24) (by simp) 0
      have xc1 : W7.cell? ⟨gx, 1, none⟩ = some (.int .u64 ((e0 : Nat) : Int)) := (unhide HK6).cell (g := gx) (cs := #[.int .u64 ((kk : Nat) : Int), .int .u64 ((e0 : Nat) : Int), .int .u8 ((m : Nat) : Int)]) (t := 24) (by simp) 1
      have xc2 : W7.cell? ⟨gx, 2, none⟩ = some (.int .u8 ((m : Nat) : Int)) := (unhide HK6).cell (g := gx) (cs := #[.int .u64 ((kk : Nat) : Int), .int .u64 ((e0 : Nat) : Int), .int .u8 ((m : Nat) : Int)]) (t := 24) (by simp) 2
      have d0 : W7.cell? ⟨gh, 0, none⟩ = some (.int .u64 ((s : Nat) : Int)) := (unhide HK6).cell (g := gh) (cs := #[.int .u64 ((s : Nat) : Int), .int .u64 ((e0 : Nat) : Int), .int .u8 ((m : Nat) : Int)]) (t := 24) (by simp) 0
      have d1 : W7.cell? ⟨gh, 1, none⟩ = some (.int .u64 ((e0 : Nat) : Int)) := (unhide HK6).cell (g := gh) (cs := #[.int .u64 ((s : Nat) : Int), .int .u64 ((e0 : Nat) : Int), .int .u8 ((m : Nat) : Int)]) (t := 24) (by simp) 1
      have d2 : W7.cell? ⟨gh, 2, none⟩ = some (.int .u8 ((m : Nat) : Int)) := (unhide HK6).cell (g := gh) (cs := #[.int .u64 ((s : Nat) : Int), .int .u64 ((e0 : Nat) : Int), .int .u8 ((m : Nat) : Int)]) (t := 24) (by simp) 2
      have c0 : W7.cell? ⟨g, 0, none⟩ = some (.int .u64 ((s : Nat) : Int)) := (unhide HK6).cell (g := g) (cs := #[.int .u64 ((s : Nat) : Int), .int .u64 ((e : Nat) : Int), .int .u8 ((l : Nat) : Int)]) (t := 24) (by simp) 0
      have c1 : W7.cell? ⟨g, 1, none⟩ = some (.int .u64 ((e : Nat) : Int)) := (unhide HK6).cell (g := g) (cs := #[.int .u64 ((s : Nat) : Int), .int .u64 ((e : Nat) : Int), .int .u8 ((l : Nat) : Int)]) (t := 24) (by simp) 1
      have c2 : W7.cell? ⟨g, 2, none⟩ = some (.int .u8 ((l : Nat) : Int)) := (unhide HK6).cell (g := g) (cs := #[.int .u64 ((s : Nat) : Int), .int .u64 ((e : Nat) : Int), .int .u8 ((l : Nat) : Int)]) (t := 24) (by simp) 2
      have cf0 := (unhide HK6).frozen (g := g) (cs := #[.int .u64 ((s : Nat) : Int), .int .u64 ((e : Nat) : Int), .int .u8 ((l : Nat) : Int)]) (t := 24) (by simp) 0
      have cf1 := (unhide HK6).frozen (g := g) (cs := #[.int .u64 ((s : Nat) : Int), .int .u64 ((e : Nat) : Int), .int .u8 ((l : Nat) : Int)]) (t := 24) (by simp) 1
      have cf2 := (unhide HK6).frozen (g := g) (cs := #[.int .u64 ((s : Nat) : Int), .int .u64 ((e : Nat) : Int), .int .u8 ((l : Nat) : Int)]) (t := 24) (by simp) 2
      have HK7 : Hid (Kb w W7 [(g, Obj.cells #[.int .u64 ((s : Nat) : Int), .int .u64 ((e : Nat) : Int), .int .u8 ((l : Nat) : Int)] 24 (0, 0))] p (saveD A ⟨s, e0, m⟩)) := (unhide HK6).less (by simp)
      have HK8 := hide ((unhide HK7).set3 (unhide HG) (by intro q hq; cases hq) (.int .u64 ((kk : Nat) : Int)) (.int .u64 ((e0 : Nat) : Int)) (.int .u8 ((m : Nat) : Int)))
      go_wp2_with fail
      generalize ((W7.setCell ⟨g, 0, none⟩ (.int .u64 ((kk : Nat) : Int))).setCell ⟨g, 1, none⟩ (.int .u64 ((e0 : Nat) : Int))).setCell ⟨g, 2, none⟩ (.int .u8 ((m : Nat) : Int)) = W8 at *
      clear xc0 xc1 xc2 d0 d1 d2 c0 c1 c2 cf0 cf1 cf2 HK6 HK7
      refine (kbCrash (unhide HK8) 0 0 ((x2 : Nat) : Int) ((x2 : Nat) : Int)).mono ?_
      rintro x W9 ⟨rfl, hk9⟩
      have HK9 := hide hk9
      have HS9 : Hid (Slots ((saveD A ⟨s, e0, m⟩).crashed (kp 0 0 x2 x2)) ⟨kk, e0, m⟩ ⟨s, e, l⟩) := by
        have h3 := (unhide HSV).2.2
        rw [unhide HNX] at h3
        exact h3.crash 0 0 x2 x2
      clear hk9 HK8
      generalize (saveD A ⟨s, e0, m⟩).crashed (kp 0 0 x2 x2) = A2 at *
      have HLD := hide ((unhide HS9).load (by show kk ≠ 0; have := unhide HKK; omega))
      go_wp2_with fail
      refine (kbLoad (unhide HO) (unhide HK9) kk e0 m 0 (unhide HLD).1 (unhide HLD).2).mono ?_
      rintro x W10 ⟨rfl, hk10⟩
      have HK10 := hide (hk10.new (.cells #[.int .u64 ((kk : Nat) : Int), .int .u64 ((e0 : Nat) : Int), .int .u8 ((m : Nat) : Int)] 24))
      clear hk10 HK9
      go_upto_region 15 with fail
      generalize W10.alloc (.cells #[.int .u64 ((kk : Nat) : Int), .int .u64 ((e0 : Nat) : Int), .int .u8 ((m : Nat) : Int)] 24) = W11 at *
      generalize W10.heap.size = gy at *
      have yc0 : W11.cell? ⟨gy, 0, none⟩ = some (.int .u64 ((kk : Nat) : Int)) := (unhide HK10).cell (g := gy) (cs := #[.int .u64 ((kk : Nat) : Int), .int .u64 ((e0 : Nat) : Int), .int .u8 ((m : Nat) : Int)]) (t := 24) (by simp) 0
      have yc1 : W11.cell? ⟨gy, 1, none⟩ = some (.int .u64 ((e0 : Nat) : Int)) := (unhide HK10).cell (g := gy) (cs := #[.int .u64 ((kk : Nat) : Int), .int .u64 ((e0 : Nat) : Int), .int .u8 ((m : Nat) : Int)]) (t := 24) (by simp) 1
      have yc2 : W11.cell? ⟨gy, 2, none⟩ = some (.int .u8 ((m : Nat) : Int)) := (unhide HK10).cell (g := gy) (cs := #[.int .u64 ((kk : Nat) : Int), .int .u64 ((e0 : Nat) : Int), .int .u8 ((m : Nat) : Int)]) (t := 24) (by simp) 2
      have c0 : W11.cell? ⟨g, 0, none⟩ = some (.int .u64 ((kk : Nat) : Int)) := (unhide HK10).cell (g := g) (cs := #[.int .u64 ((kk : Nat) : Int), .int .u64 ((e0 : Nat) : Int), .int .u8 ((m : Nat) : Int)]) (t := 24) (by simp) 0
      have c1 : W11.cell? ⟨g, 1, none⟩ = some (.int .u64 ((e0 : Nat) : Int)) := (unhide HK10).cell (g := g) (cs := #[.int .u64 ((kk : Nat) : Int), .int .u64 ((e0 : Nat) : Int), .int .u8 ((m : Nat) : Int)]) (t := 24) (by simp) 1
      have c2 : W11.cell? ⟨g, 2, none⟩ = some (.int .u8 ((m : Nat) : Int)) := (unhide HK10).cell (g := g) (cs := #[.int .u64 ((kk : Nat) : Int), .int .u64 ((e0 : Nat) : Int), .int .u8 ((m : Nat) : Int)]) (t := 24) (by simp) 2
      have hwj : IntKind.i64.wrap ((j : Int) + 1) = ((j : Int) + 1) := by rw [IntKind.wrap_i64]; omega
      go_wp2_with fail
      refine ⟨⟨j + 1, kk, e0, m, A2, ⟨s, e, l⟩, by omega, by go_num, ⟨by have := unhide HKK; have := unhide HSJ; omega, unhide HMM⟩, unhide HS9, (unhide HK10).less (by simp)⟩, by simp [intOf]; omega⟩
    · have ej : j = n := by omega
      subst ej
      obtain ⟨e7, he7⟩ : ∃ e7, (e + 7) % 18446744073709551616 = e7 := ⟨_, rfl⟩
      obtain ⟨m, hm⟩ : ∃ m, 1 - l = m := ⟨_, rfl⟩
      obtain ⟨kk, hkk⟩ : ∃ kk, kk = s + 1 := ⟨_, rfl⟩
      obtain ⟨c3, hc3⟩ : ∃ c3, x1 % 3 = c3 := ⟨_, rfl⟩
      obtain ⟨k4, hk4⟩ : ∃ k4, x2 % 40 = k4 := ⟨_, rfl⟩
      have hlf := (unhide HS).fits
      have hle : e < 18446744073709551616 := hlf.2.1
      have hll := (unhide HJS).2
      have hsj := (unhide HJS).1
      have hw7 : IntKind.u64.wrap ((e : Int) + 7) = ((e7 : Nat) : Int) := by rw [IntKind.wrap_u64]; omega
      have hwm : IntKind.u8.wrap (1 - (l : Int)) = ((m : Nat) : Int) := by rw [IntKind.wrap_u8']; omega
      have hws : IntKind.u64.wrap ((s : Int) + 1) = ((kk : Nat) : Int) := by rw [IntKind.wrap_u64]; omega
      have h3m : (x1 : Int) % 3 = ((c3 : Nat) : Int) := by omega
      have h4m : (x2 : Int) % 40 = ((k4 : Nat) : Int) := by omega
      have HFT : Hid (HeadD.mk s e7 m).fits := ⟨by show s < _; omega, by show e7 < _; omega, by show m < 256; omega⟩
      have HSB : Hid (s ≤ 20) := by show s ≤ 20; omega
      have HKK := hide hkk
      have HNX : Hid ((HeadD.mk s e7 m).next = ⟨kk, e7, m⟩) := by
        show HeadD.mk ((s + 1) % 18446744073709551616) e7 m = _
        rw [Nat.mod_eq_of_lt (by omega), hkk]
      have HC3 : Hid (c3 < 3) := by show c3 < 3; omega
      have HKL := hide ((unhide HS).killed (h := ⟨s, e7, m⟩) rfl (unhide HFT) (by show m ≤ 1; omega) (by show s + 1 < _; omega) c3 (unhide HC3) ((k4 : Nat) : Int))
      have HSN := hide hsj
      have h3c : c3 ≤ 9223372036854775807 := by omega
      have H3C : Hid (((c3 : Nat) : Int) ≤ 9223372036854775807) := by show _ ≤ _; omega
      clear he7 hm hkk hc3 hk4 hlf hle hll hsj h3c hlt
      rw [unhide HNX] at HKL
      have c0 : wr.cell? ⟨g, 0, none⟩ = some (.int .u64 ((s : Nat) : Int)) := (unhide HK).cell (g := g) (cs := #[.int .u64 ((s : Nat) : Int), .int .u64 ((e : Nat) : Int), .int .u8 ((l : Nat) : Int)]) (t := 24) (by simp) 0
      have c1 : wr.cell? ⟨g, 1, none⟩ = some (.int .u64 ((e : Nat) : Int)) := (unhide HK).cell (g := g) (cs := #[.int .u64 ((s : Nat) : Int), .int .u64 ((e : Nat) : Int), .int .u8 ((l : Nat) : Int)]) (t := 24) (by simp) 1
      have c2 : wr.cell? ⟨g, 2, none⟩ = some (.int .u8 ((l : Nat) : Int)) := (unhide HK).cell (g := g) (cs := #[.int .u64 ((s : Nat) : Int), .int .u64 ((e : Nat) : Int), .int .u8 ((l : Nat) : Int)]) (t := 24) (by simp) 2
      have HK1 := hide ((unhide HK).new (.cells #[.int .u64 ((s : Nat) : Int), .int .u64 ((e7 : Nat) : Int), .int .u8 ((m : Nat) : Int)] 24))
      go_upto_region 19 with fail
      have HGN0 : Hid (g < wr.heap.size ∧ w.heap.size ≤ wr.heap.size) := ⟨(Array.getElem?_eq_some_iff.1 ((unhide HK).ce _ (List.mem_cons_self ..))).1, (unhide HK).bb.size⟩
      clear c0 c1 c2 HK hw7 hwm
      generalize wr.alloc (.cells #[.int .u64 ((s : Nat) : Int), .int .u64 ((e7 : Nat) : Int), .int .u8 ((m : Nat) : Int)] 24) = W11 at *
      generalize wr.heap.size = gn at *
      go_wp2_with fail
      refine (kbFuse (unhide HK1) (unhide HS).calm.live ((c3 : Nat) : Int) 0 (unhide H3C)).mono ?_
      rintro x W12 ⟨rfl, hk12⟩
      have HK3 := hide hk12
      clear hk12 HK1
      generalize A.fused ((c3 : Nat) : Int) 0 = F at *
      have n0 : W12.cell? ⟨gn, 0, none⟩ = some (.int .u64 ((s : Nat) : Int)) := (unhide HK3).cell (g := gn) (cs := #[.int .u64 ((s : Nat) : Int), .int .u64 ((e7 : Nat) : Int), .int .u8 ((m : Nat) : Int)]) (t := 24) (by simp) 0
      have n1 : W12.cell? ⟨gn, 1, none⟩ = some (.int .u64 ((e7 : Nat) : Int)) := (unhide HK3).cell (g := gn) (cs := #[.int .u64 ((s : Nat) : Int), .int .u64 ((e7 : Nat) : Int), .int .u8 ((m : Nat) : Int)]) (t := 24) (by simp) 1
      have n2 : W12.cell? ⟨gn, 2, none⟩ = some (.int .u8 ((m : Nat) : Int)) := (unhide HK3).cell (g := gn) (cs := #[.int .u64 ((s : Nat) : Int), .int .u64 ((e7 : Nat) : Int), .int .u8 ((m : Nat) : Int)]) (t := 24) (by simp) 2
      by_cases h32 : c3 = 2
      · have HKX := hide ((unhide HKL).1 h32)
        have q1 : (x1 : Int) % 3 = 2 := by omega
        have q2 : ((x1 : Int) % 3 == 2) = true := beq_iff_eq.2 q1
        clear h3m h32
        go_wp2_with fail
        refine (kbSave (unhide HO) (unhide HK3) s e7 m kk e7 m 0 (unhide HFT) (unhide HKX).1 (unhide HKX).2.1).mono ?_
        rintro x W13 ⟨rfl, hk13⟩
        have HK13 := hide (hk13.new (.cells #[.int .u64 ((kk : Nat) : Int), .int .u64 ((e7 : Nat) : Int), .int .u8 ((m : Nat) : Int)] 24))
        have HGN : Hid (g < gn ∧ gn < W13.heap.size ∧ w.heap.size ≤ gn) := ⟨(unhide HGN0).1, (Array.getElem?_eq_some_iff.1 (hk13.ce (gn, Obj.cells #[.int .u64 ((s : Nat) : Int), .int .u64 ((e7 : Nat) : Int), .int .u8 ((m : Nat) : Int)] 24 (0, 0)) (by simp))).1, (unhide HGN0).2⟩
        clear hk13 HK3 n0 n1 n2
        go_upto_region 21 with fail
        generalize W13.alloc (.cells #[.int .u64 ((kk : Nat) : Int), .int .u64 ((e7 : Nat) : Int), .int .u8 ((m : Nat) : Int)] 24) = W14 at *
        generalize W13.heap.size = gx at *
        go_wp2_with fail
        refine (kbCrash (unhide HK13) 0 0 ((k4 : Nat) : Int) ((k4 : Nat) : Int)).mono ?_
        rintro x W15 ⟨rfl, hk15⟩
        have HKB := hide hk15
        clear hk15 HK13 HKL
        generalize (saveD F ⟨s, e7, m⟩).crashed (kp 0 0 ((k4 : Nat) : Int) ((k4 : Nat) : Int)) = B at *
        go_wp2_with fail
        have HGD := hide (unhide HKX).2.2
        have HLD := hide (unhide HGD).load
        refine (kbLoad (unhide HO) (unhide HKB) kk e7 m 0 (unhide HLD).1 (unhide HLD).2).mono ?_
        rintro x W23 ⟨rfl, hk23⟩
        have HK24 := hide ((hk23.new (.cells #[.int .u64 ((kk : Nat) : Int), .int .u64 ((e7 : Nat) : Int), .int .u8 ((m : Nat) : Int)] 24)).less (M' := [(gn, Obj.cells #[.int .u64 ((s : Nat) : Int), .int .u64 ((e7 : Nat) : Int), .int .u8 ((m : Nat) : Int)] 24 (0, 0)), (W23.heap.size, Obj.cells #[.int .u64 ((kk : Nat) : Int), .int .u64 ((e7 : Nat) : Int), .int .u8 ((m : Nat) : Int)] 24 (0, 0)), (gx, Obj.cells #[.int .u64 ((kk : Nat) : Int), .int .u64 ((e7 : Nat) : Int), .int .u8 ((m : Nat) : Int)] 24 (0, 0)), (g, Obj.cells #[.int .u64 ((s : Nat) : Int), .int .u64 ((e : Nat) : Int), .int .u8 ((l : Nat) : Int)] 24 (0, 0))]) (by simp))
        have HGY : Hid (gn < W23.heap.size) := (Array.getElem?_eq_some_iff.1 (hk23.ce (gn, Obj.cells #[.int .u64 ((s : Nat) : Int), .int .u64 ((e7 : Nat) : Int), .int .u8 ((m : Nat) : Int)] 24 (0, 0)) (by simp))).1
        clear hk23 HKB
        go_upto_region 25 with fail
        generalize W23.alloc (.cells #[.int .u64 ((kk : Nat) : Int), .int .u64 ((e7 : Nat) : Int), .int .u8 ((m : Nat) : Int)] 24) = W24 at *
        generalize W23.heap.size = gy at *
        have n0 : W24.cell? ⟨gn, 0, none⟩ = some (.int .u64 ((s : Nat) : Int)) := (unhide HK24).cell (g := gn) (cs := #[.int .u64 ((s : Nat) : Int), .int .u64 ((e7 : Nat) : Int), .int .u8 ((m : Nat) : Int)]) (t := 24) (by simp) 0
        have nf := (unhide HK24).frozen (g := gn) (cs := #[.int .u64 ((s : Nat) : Int), .int .u64 ((e7 : Nat) : Int), .int .u8 ((m : Nat) : Int)]) (t := 24) (by simp) 0
        have HK25 := hide ((unhide HK24).set (by have := unhide HGN; omega) (by have h1 := unhide HGN; have h2 := unhide HGY; intro q hq; simp only [List.mem_cons, List.not_mem_nil, or_false] at hq; rcases hq with rfl | rfl | rfl <;> simp only <;> omega) 0 (.int .u64 ((kk : Nat) : Int)))
        replace HK25 : Hid (Kb w (W24.setCell ⟨gn, 0, none⟩ (.int .u64 ((kk : Nat) : Int))) [(gn, Obj.cells #[.int .u64 ((kk : Nat) : Int), .int .u64 ((e7 : Nat) : Int), .int .u8 ((m : Nat) : Int)] 24 (0, 0)), (gy, Obj.cells #[.int .u64 ((kk : Nat) : Int), .int .u64 ((e7 : Nat) : Int), .int .u8 ((m : Nat) : Int)] 24 (0, 0)), (gx, Obj.cells #[.int .u64 ((kk : Nat) : Int), .int .u64 ((e7 : Nat) : Int), .int .u8 ((m : Nat) : Int)] 24 (0, 0)), (g, Obj.cells #[.int .u64 ((s : Nat) : Int), .int .u64 ((e : Nat) : Int), .int .u8 ((l : Nat) : Int)] 24 (0, 0))] p B) := HK25
        go_upto_region 26 with fail
        generalize W24.setCell ⟨gn, 0, none⟩ (.int .u64 ((kk : Nat) : Int)) = Wz at *
        clear n0 nf HK24
        have nv0 : Wz.cell? ⟨gn, 0, none⟩ = some (.int .u64 ((kk : Nat) : Int)) := (unhide HK25).cell (g := gn) (cs := #[.int .u64 ((kk : Nat) : Int), .int .u64 ((e7 : Nat) : Int), .int .u8 ((m : Nat) : Int)]) (t := 24) (by simp) 0
        have nv1 : Wz.cell? ⟨gn, 1, none⟩ = some (.int .u64 ((e7 : Nat) : Int)) := (unhide HK25).cell (g := gn) (cs := #[.int .u64 ((kk : Nat) : Int), .int .u64 ((e7 : Nat) : Int), .int .u8 ((m : Nat) : Int)]) (t := 24) (by simp) 1
        have nv2 : Wz.cell? ⟨gn, 2, none⟩ = some (.int .u8 ((m : Nat) : Int)) := (unhide HK25).cell (g := gn) (cs := #[.int .u64 ((kk : Nat) : Int), .int .u64 ((e7 : Nat) : Int), .int .u8 ((m : Nat) : Int)]) (t := 24) (by simp) 2
        have yv0 : Wz.cell? ⟨gy, 0, none⟩ = some (.int .u64 ((kk : Nat) : Int)) := (unhide HK25).cell (g := gy) (cs := #[.int .u64 ((kk : Nat) : Int), .int .u64 ((e7 : Nat) : Int), .int .u8 ((m : Nat) : Int)]) (t := 24) (by simp) 0
        have yv1 : Wz.cell? ⟨gy, 1, none⟩ = some (.int .u64 ((e7 : Nat) : Int)) := (unhide HK25).cell (g := gy) (cs := #[.int .u64 ((kk : Nat) : Int), .int .u64 ((e7 : Nat) : Int), .int .u8 ((m : Nat) : Int)]) (t := 24) (by simp) 1
        have yv2 : Wz.cell? ⟨gy, 2, none⟩ = some (.int .u8 ((m : Nat) : Int)) := (unhide HK25).cell (g := gy) (cs := #[.int .u64 ((kk : Nat) : Int), .int .u64 ((e7 : Nat) : Int), .int .u8 ((m : Nat) : Int)]) (t := 24) (by simp) 2
        have xv0 : Wz.cell? ⟨gx, 0, none⟩ = some (.int .u64 ((kk : Nat) : Int)) := (unhide HK25).cell (g := gx) (cs := #[.int .u64 ((kk : Nat) : Int), .int .u64 ((e7 : Nat) : Int), .int .u8 ((m : Nat) : Int)]) (t := 24) (by simp) 0
        have xv1 : Wz.cell? ⟨gx, 1, none⟩ = some (.int .u64 ((e7 : Nat) : Int)) := (unhide HK25).cell (g := gx) (cs := #[.int .u64 ((kk : Nat) : Int), .int .u64 ((e7 : Nat) : Int), .int .u8 ((m : Nat) : Int)]) (t := 24) (by simp) 1
        have xv2 : Wz.cell? ⟨gx, 2, none⟩ = some (.int .u8 ((m : Nat) : Int)) := (unhide HK25).cell (g := gx) (cs := #[.int .u64 ((kk : Nat) : Int), .int .u64 ((e7 : Nat) : Int), .int .u8 ((m : Nat) : Int)]) (t := 24) (by simp) 2
        have HKz := hide ((unhide HK25).less (M' := [(gy, Obj.cells #[.int .u64 ((kk : Nat) : Int), .int .u64 ((e7 : Nat) : Int), .int .u8 ((m : Nat) : Int)] 24 (0, 0))]) (by simp))
        clear HK25 hws
        go_upto_region 33 with fail
        clear nv0 nv1 nv2 yv0 yv1 yv2 xv0 xv1 xv2
        obtain ⟨yk, hyk⟩ : ∃ yk, yk = kk + 1 := ⟨_, rfl⟩
        have HYK := hide hyk
        have hwy : IntKind.u64.wrap ((kk : Int) + 1) = ((yk : Nat) : Int) := by have := unhide HSB; have := unhide HKK; rw [IntKind.wrap_u64]; omega
        clear hyk
        have HFY : Hid (HeadD.mk kk e7 m).fits := (unhide HGD).fits
        have HSY := hide ((unhide HGD).save (h := ⟨kk, e7, m⟩) rfl (unhide HFY) (HeadD.right_iff.1 (unhide HGD).right).2 (by show kk + 1 < _; have := unhide HSB; have := unhide HKK; omega))
        have HNY : Hid ((HeadD.mk kk e7 m).next = ⟨yk, e7, m⟩) := by
          show HeadD.mk ((kk + 1) % 18446744073709551616) e7 m = _
          rw [Nat.mod_eq_of_lt (by have := unhide HSB; have := unhide HKK; omega), ← unhide HYK]
        have yv0 : Wz.cell? ⟨gy, 0, none⟩ = some (.int .u64 ((kk : Nat) : Int)) := (unhide HKz).cell (g := gy) (cs := #[.int .u64 ((kk : Nat) : Int), .int .u64 ((e7 : Nat) : Int), .int .u8 ((m : Nat) : Int)]) (t := 24) (by simp) 0
        have yv1 : Wz.cell? ⟨gy, 1, none⟩ = some (.int .u64 ((e7 : Nat) : Int)) := (unhide HKz).cell (g := gy) (cs := #[.int .u64 ((kk : Nat) : Int), .int .u64 ((e7 : Nat) : Int), .int .u8 ((m : Nat) : Int)]) (t := 24) (by simp) 1
        have yv2 : Wz.cell? ⟨gy, 2, none⟩ = some (.int .u8 ((m : Nat) : Int)) := (unhide HKz).cell (g := gy) (cs := #[.int .u64 ((kk : Nat) : Int), .int .u64 ((e7 : Nat) : Int), .int .u8 ((m : Nat) : Int)]) (t := 24) (by simp) 2
        go_wp2_with fail
        refine (kbSave (unhide HO) (unhide HKz) kk e7 m yk e7 m 0 (unhide HFY) (unhide HSY).1 ((unhide HSY).2.1.trans (unhide HNY))).mono ?_
        rintro x W31 ⟨rfl, hk31⟩
        have HK31 := hide (hk31.new (.cells #[.int .u64 ((yk : Nat) : Int), .int .u64 ((e7 : Nat) : Int), .int .u8 ((m : Nat) : Int)] 24))
        have HG31 : Hid (Good (saveD B ⟨kk, e7, m⟩) ⟨yk, e7, m⟩) := by
          have h3 := (unhide HSY).2.2
          rw [unhide HNY] at h3
          exact h3
        clear hk31 yv0 yv1 yv2 HSY
        generalize saveD B ⟨kk, e7, m⟩ = B2 at *
        go_upto_region 34 with fail
        generalize W31.alloc (.cells #[.int .u64 ((yk : Nat) : Int), .int .u64 ((e7 : Nat) : Int), .int .u8 ((m : Nat) : Int)] 24) = W32 at *
        generalize W31.heap.size = gz at *
        go_wp2_with fail
        refine (kbLoad (unhide HO) (unhide HK31) yk e7 m 0 (unhide HG31).load.1 (unhide HG31).load.2).mono ?_
        rintro x W33 ⟨rfl, hk33⟩
        have HK33 := hide (hk33.new (.cells #[.int .u64 ((yk : Nat) : Int), .int .u64 ((e7 : Nat) : Int), .int .u8 ((m : Nat) : Int)] 24))
        clear hk33 HK31
        go_upto_region 35 with fail
        generalize W33.alloc (.cells #[.int .u64 ((yk : Nat) : Int), .int .u64 ((e7 : Nat) : Int), .int .u8 ((m : Nat) : Int)] 24) = W34 at *
        generalize W33.heap.size = gw at *
        have zv0 : W34.cell? ⟨gz, 0, none⟩ = some (.int .u64 ((yk : Nat) : Int)) := (unhide HK33).cell (g := gz) (cs := #[.int .u64 ((yk : Nat) : Int), .int .u64 ((e7 : Nat) : Int), .int .u8 ((m : Nat) : Int)]) (t := 24) (by simp) 0
        have zv1 : W34.cell? ⟨gz, 1, none⟩ = some (.int .u64 ((e7 : Nat) : Int)) := (unhide HK33).cell (g := gz) (cs := #[.int .u64 ((yk : Nat) : Int), .int .u64 ((e7 : Nat) : Int), .int .u8 ((m : Nat) : Int)]) (t := 24) (by simp) 1
        have zv2 : W34.cell? ⟨gz, 2, none⟩ = some (.int .u8 ((m : Nat) : Int)) := (unhide HK33).cell (g := gz) (cs := #[.int .u64 ((yk : Nat) : Int), .int .u64 ((e7 : Nat) : Int), .int .u8 ((m : Nat) : Int)]) (t := 24) (by simp) 2
        have wv0 : W34.cell? ⟨gw, 0, none⟩ = some (.int .u64 ((yk : Nat) : Int)) := (unhide HK33).cell (g := gw) (cs := #[.int .u64 ((yk : Nat) : Int), .int .u64 ((e7 : Nat) : Int), .int .u8 ((m : Nat) : Int)]) (t := 24) (by simp) 0
        have wv1 : W34.cell? ⟨gw, 1, none⟩ = some (.int .u64 ((e7 : Nat) : Int)) := (unhide HK33).cell (g := gw) (cs := #[.int .u64 ((yk : Nat) : Int), .int .u64 ((e7 : Nat) : Int), .int .u8 ((m : Nat) : Int)]) (t := 24) (by simp) 1
        have wv2 : W34.cell? ⟨gw, 2, none⟩ = some (.int .u8 ((m : Nat) : Int)) := (unhide HK33).cell (g := gw) (cs := #[.int .u64 ((yk : Nat) : Int), .int .u64 ((e7 : Nat) : Int), .int .u8 ((m : Nat) : Int)]) (t := 24) (by simp) 2
        have yv0 : W34.cell? ⟨gy, 0, none⟩ = some (.int .u64 ((kk : Nat) : Int)) := (unhide HK33).cell (g := gy) (cs := #[.int .u64 ((kk : Nat) : Int), .int .u64 ((e7 : Nat) : Int), .int .u8 ((m : Nat) : Int)]) (t := 24) (by simp) 0
        have yv1 : W34.cell? ⟨gy, 1, none⟩ = some (.int .u64 ((e7 : Nat) : Int)) := (unhide HK33).cell (g := gy) (cs := #[.int .u64 ((kk : Nat) : Int), .int .u64 ((e7 : Nat) : Int), .int .u8 ((m : Nat) : Int)]) (t := 24) (by simp) 1
        have yv2 : W34.cell? ⟨gy, 2, none⟩ = some (.int .u8 ((m : Nat) : Int)) := (unhide HK33).cell (g := gy) (cs := #[.int .u64 ((kk : Nat) : Int), .int .u64 ((e7 : Nat) : Int), .int .u8 ((m : Nat) : Int)]) (t := 24) (by simp) 2
        go_wp2_with fail
        refine (unhide HA _).mono ?_
        rintro x W35 ⟨rfl, hb35⟩
        have HFIN : Hid (Below w.heap.size w W35) := (unhide HK33).bb.trans (hb35.mono (unhide HK33).bb.size)
        clear hb35
        go_wp2_with fail
        go_ret
        exact ⟨rfl, unhide HFIN⟩
      · have HKX := hide ((unhide HKL).2 h32)
        have q1 : ¬ (x1 : Int) % 3 = 2 := by omega
        have q2 : ((x1 : Int) % 3 == 2) = false := beq_eq_false_iff_ne.2 q1
        clear h3m h32
        go_wp2_with fail
        refine (kbSave (unhide HO) (unhide HK3) s e7 m 0 0 0 3 (unhide HFT) (unhide HKX).1 (unhide HKX).2.1).mono ?_
        rintro x W13 ⟨rfl, hk13⟩
        have HK13 := hide (hk13.new (.cells #[.int .u64 0, .int .u64 0, .int .u8 0] 24))
        have HGN : Hid (g < gn ∧ gn < W13.heap.size ∧ w.heap.size ≤ gn) := ⟨(unhide HGN0).1, (Array.getElem?_eq_some_iff.1 (hk13.ce (gn, Obj.cells #[.int .u64 ((s : Nat) : Int), .int .u64 ((e7 : Nat) : Int), .int .u8 ((m : Nat) : Int)] 24 (0, 0)) (by simp))).1, (unhide HGN0).2⟩
        clear hk13 HK3 n0 n1 n2
        go_upto_region 21 with fail
        generalize W13.alloc (.cells #[.int .u64 0, .int .u64 0, .int .u8 0] 24) = W14 at *
        generalize W13.heap.size = gx at *
        go_wp2_with fail
        refine (kbCrash (unhide HK13) 0 0 ((k4 : Nat) : Int) ((k4 : Nat) : Int)).mono ?_
        rintro x W15 ⟨rfl, hk15⟩
        have HKB := hide hk15
        clear hk15 HK13 HKL
        generalize (saveD F ⟨s, e7, m⟩).crashed (kp 0 0 ((k4 : Nat) : Int) ((k4 : Nat) : Int)) = B at *
        go_wp2_with fail
        rcases (unhide HKX).2.2 with hg | ⟨_, hg⟩ | ⟨h0, hld⟩
        · have HGD := hide hg
          have HLD := hide hg.load
          clear hg HKX
          refine (kbLoad (unhide HO) (unhide HKB) kk e7 m 0 (unhide HLD).1 (unhide HLD).2).mono ?_
          rintro x W23 ⟨rfl, hk23⟩
          have HK24 := hide ((hk23.new (.cells #[.int .u64 ((kk : Nat) : Int), .int .u64 ((e7 : Nat) : Int), .int .u8 ((m : Nat) : Int)] 24)).less (M' := [(gn, Obj.cells #[.int .u64 ((s : Nat) : Int), .int .u64 ((e7 : Nat) : Int), .int .u8 ((m : Nat) : Int)] 24 (0, 0)), (W23.heap.size, Obj.cells #[.int .u64 ((kk : Nat) : Int), .int .u64 ((e7 : Nat) : Int), .int .u8 ((m : Nat) : Int)] 24 (0, 0)), (gx, Obj.cells #[.int .u64 0, .int .u64 0, .int .u8 0] 24 (0, 0)), (g, Obj.cells #[.int .u64 ((s : Nat) : Int), .int .u64 ((e : Nat) : Int), .int .u8 ((l : Nat) : Int)] 24 (0, 0))]) (by simp))
          have HGY : Hid (gn < W23.heap.size) := (Array.getElem?_eq_some_iff.1 (hk23.ce (gn, Obj.cells #[.int .u64 ((s : Nat) : Int), .int .u64 ((e7 : Nat) : Int), .int .u8 ((m : Nat) : Int)] 24 (0, 0)) (by simp))).1
          clear hk23 HKB
          go_upto_region 25 with fail
          generalize W23.alloc (.cells #[.int .u64 ((kk : Nat) : Int), .int .u64 ((e7 : Nat) : Int), .int .u8 ((m : Nat) : Int)] 24) = W24 at *
          generalize W23.heap.size = gy at *
          have n0 : W24.cell? ⟨gn, 0, none⟩ = some (.int .u64 ((s : Nat) : Int)) := (unhide HK24).cell (g := gn) (cs := #[.int .u64 ((s : Nat) : Int), .int .u64 ((e7 : Nat) : Int), .int .u8 ((m : Nat) : Int)]) (t := 24) (by simp) 0
          have nf := (unhide HK24).frozen (g := gn) (cs := #[.int .u64 ((s : Nat) : Int), .int .u64 ((e7 : Nat) : Int), .int .u8 ((m : Nat) : Int)]) (t := 24) (by simp) 0
          have HK25 := hide ((unhide HK24).set (by have := unhide HGN; omega) (by have h1 := unhide HGN; have h2 := unhide HGY; intro q hq; simp only [List.mem_cons, List.not_mem_nil, or_false] at hq; rcases hq with rfl | rfl | rfl <;> simp only <;> omega) 0 (.int .u64 ((kk : Nat) : Int)))
          replace HK25 : Hid (Kb w (W24.setCell ⟨gn, 0, none⟩ (.int .u64 ((kk : Nat) : Int))) [(gn, Obj.cells #[.int .u64 ((kk : Nat) : Int), .int .u64 ((e7 : Nat) : Int), .int .u8 ((m : Nat) : Int)] 24 (0, 0)), (gy, Obj.cells #[.int .u64 ((kk : Nat) : Int), .int .u64 ((e7 : Nat) : Int), .int .u8 ((m : Nat) : Int)] 24 (0, 0)), (gx, Obj.cells #[.int .u64 0, .int .u64 0, .int .u8 0] 24 (0, 0)), (g, Obj.cells #[.int .u64 ((s : Nat) : Int), .int .u64 ((e : Nat) : Int), .int .u8 ((l : Nat) : Int)] 24 (0, 0))] p B) := HK25
          go_upto_region 26 with fail
          generalize W24.setCell ⟨gn, 0, none⟩ (.int .u64 ((kk : Nat) : Int)) = Wz at *
          clear n0 nf HK24
          by_cases hj0 : j = 0
          · have z1 : (j : Int) = 0 := by omega
            have z2 : ((j : Int) == 0) = true := beq_iff_eq.2 z1
            clear hj0
            have yv0 : Wz.cell? ⟨gy, 0, none⟩ = some (.int .u64 ((kk : Nat) : Int)) := (unhide HK25).cell (g := gy) (cs := #[.int .u64 ((kk : Nat) : Int), .int .u64 ((e7 : Nat) : Int), .int .u8 ((m : Nat) : Int)]) (t := 24) (by simp) 0
            have yv1 : Wz.cell? ⟨gy, 1, none⟩ = some (.int .u64 ((e7 : Nat) : Int)) := (unhide HK25).cell (g := gy) (cs := #[.int .u64 ((kk : Nat) : Int), .int .u64 ((e7 : Nat) : Int), .int .u8 ((m : Nat) : Int)]) (t := 24) (by simp) 1
            have yv2 : Wz.cell? ⟨gy, 2, none⟩ = some (.int .u8 ((m : Nat) : Int)) := (unhide HK25).cell (g := gy) (cs := #[.int .u64 ((kk : Nat) : Int), .int .u64 ((e7 : Nat) : Int), .int .u8 ((m : Nat) : Int)]) (t := 24) (by simp) 2
            have nv0 : Wz.cell? ⟨gn, 0, none⟩ = some (.int .u64 ((kk : Nat) : Int)) := (unhide HK25).cell (g := gn) (cs := #[.int .u64 ((kk : Nat) : Int), .int .u64 ((e7 : Nat) : Int), .int .u8 ((m : Nat) : Int)]) (t := 24) (by simp) 0
            have nv1 : Wz.cell? ⟨gn, 1, none⟩ = some (.int .u64 ((e7 : Nat) : Int)) := (unhide HK25).cell (g := gn) (cs := #[.int .u64 ((kk : Nat) : Int), .int .u64 ((e7 : Nat) : Int), .int .u8 ((m : Nat) : Int)]) (t := 24) (by simp) 1
            have nv2 : Wz.cell? ⟨gn, 2, none⟩ = some (.int .u8 ((m : Nat) : Int)) := (unhide HK25).cell (g := gn) (cs := #[.int .u64 ((kk : Nat) : Int), .int .u64 ((e7 : Nat) : Int), .int .u8 ((m : Nat) : Int)]) (t := 24) (by simp) 2
            have cv0 : Wz.cell? ⟨g, 0, none⟩ = some (.int .u64 ((s : Nat) : Int)) := (unhide HK25).cell (g := g) (cs := #[.int .u64 ((s : Nat) : Int), .int .u64 ((e : Nat) : Int), .int .u8 ((l : Nat) : Int)]) (t := 24) (by simp) 0
            have cv1 : Wz.cell? ⟨g, 1, none⟩ = some (.int .u64 ((e : Nat) : Int)) := (unhide HK25).cell (g := g) (cs := #[.int .u64 ((s : Nat) : Int), .int .u64 ((e : Nat) : Int), .int .u8 ((l : Nat) : Int)]) (t := 24) (by simp) 1
            have cv2 : Wz.cell? ⟨g, 2, none⟩ = some (.int .u8 ((l : Nat) : Int)) := (unhide HK25).cell (g := g) (cs := #[.int .u64 ((s : Nat) : Int), .int .u64 ((e : Nat) : Int), .int .u8 ((l : Nat) : Int)]) (t := 24) (by simp) 2
            have HKz := hide ((unhide HK25).less (M' := [(gy, Obj.cells #[.int .u64 ((kk : Nat) : Int), .int .u64 ((e7 : Nat) : Int), .int .u8 ((m : Nat) : Int)] 24 (0, 0))]) (by simp))
            have v1 : ¬ (kk : Int) = (s : Int) := by have := unhide HKK; omega
            have v2 : ((kk : Int) == (s : Int)) = false := beq_eq_false_iff_ne.2 v1
            clear HK25 hws
            go_upto_region 33 with fail
            clear nv0 nv1 nv2 yv0 yv1 yv2 cv0 cv1 cv2 v1 v2
            obtain ⟨yk, hyk⟩ : ∃ yk, yk = kk + 1 := ⟨_, rfl⟩
            have HYK := hide hyk
            have hwy : IntKind.u64.wrap ((kk : Int) + 1) = ((yk : Nat) : Int) := by have := unhide HSB; have := unhide HKK; rw [IntKind.wrap_u64]; omega
            clear hyk
            have HFY : Hid (HeadD.mk kk e7 m).fits := (unhide HGD).fits
            have HSY := hide ((unhide HGD).save (h := ⟨kk, e7, m⟩) rfl (unhide HFY) (HeadD.right_iff.1 (unhide HGD).right).2 (by show kk + 1 < _; have := unhide HSB; have := unhide HKK; omega))
            have HNY : Hid ((HeadD.mk kk e7 m).next = ⟨yk, e7, m⟩) := by
              show HeadD.mk ((kk + 1) % 18446744073709551616) e7 m = _
              rw [Nat.mod_eq_of_lt (by have := unhide HSB; have := unhide HKK; omega), ← unhide HYK]
            have yv0 : Wz.cell? ⟨gy, 0, none⟩ = some (.int .u64 ((kk : Nat) : Int)) := (unhide HKz).cell (g := gy) (cs := #[.int .u64 ((kk : Nat) : Int), .int .u64 ((e7 : Nat) : Int), .int .u8 ((m : Nat) : Int)]) (t := 24) (by simp) 0
            have yv1 : Wz.cell? ⟨gy, 1, none⟩ = some (.int .u64 ((e7 : Nat) : Int)) := (unhide HKz).cell (g := gy) (cs := #[.int .u64 ((kk : Nat) : Int), .int .u64 ((e7 : Nat) : Int), .int .u8 ((m : Nat) : Int)]) (t := 24) (by simp) 1
            have yv2 : Wz.cell? ⟨gy, 2, none⟩ = some (.int .u8 ((m : Nat) : Int)) := (unhide HKz).cell (g := gy) (cs := #[.int .u64 ((kk : Nat) : Int), .int .u64 ((e7 : Nat) : Int), .int .u8 ((m : Nat) : Int)]) (t := 24) (by simp) 2
            go_wp2_with fail
            refine (kbSave (unhide HO) (unhide HKz) kk e7 m yk e7 m 0 (unhide HFY) (unhide HSY).1 ((unhide HSY).2.1.trans (unhide HNY))).mono ?_
            rintro x W31 ⟨rfl, hk31⟩
            have HK31 := hide (hk31.new (.cells #[.int .u64 ((yk : Nat) : Int), .int .u64 ((e7 : Nat) : Int), .int .u8 ((m : Nat) : Int)] 24))
            have HG31 : Hid (Good (saveD B ⟨kk, e7, m⟩) ⟨yk, e7, m⟩) := by
              have h3 := (unhide HSY).2.2
              rw [unhide HNY] at h3
              exact h3
            clear hk31 yv0 yv1 yv2 HSY
            generalize saveD B ⟨kk, e7, m⟩ = B2 at *
            go_upto_region 34 with fail
            generalize W31.alloc (.cells #[.int .u64 ((yk : Nat) : Int), .int .u64 ((e7 : Nat) : Int), .int .u8 ((m : Nat) : Int)] 24) = W32 at *
            generalize W31.heap.size = gz at *
            go_wp2_with fail
            refine (kbLoad (unhide HO) (unhide HK31) yk e7 m 0 (unhide HG31).load.1 (unhide HG31).load.2).mono ?_
            rintro x W33 ⟨rfl, hk33⟩
            have HK33 := hide (hk33.new (.cells #[.int .u64 ((yk : Nat) : Int), .int .u64 ((e7 : Nat) : Int), .int .u8 ((m : Nat) : Int)] 24))
            clear hk33 HK31
            go_upto_region 35 with fail
            generalize W33.alloc (.cells #[.int .u64 ((yk : Nat) : Int), .int .u64 ((e7 : Nat) : Int), .int .u8 ((m : Nat) : Int)] 24) = W34 at *
            generalize W33.heap.size = gw at *
            have zv0 : W34.cell? ⟨gz, 0, none⟩ = some (.int .u64 ((yk : Nat) : Int)) := (unhide HK33).cell (g := gz) (cs := #[.int .u64 ((yk : Nat) : Int), .int .u64 ((e7 : Nat) : Int), .int .u8 ((m : Nat) : Int)]) (t := 24) (by simp) 0
            have zv1 : W34.cell? ⟨gz, 1, none⟩ = some (.int .u64 ((e7 : Nat) : Int)) := (unhide HK33).cell (g := gz) (cs := #[.int .u64 ((yk : Nat) : Int), .int .u64 ((e7 : Nat) : Int), .int .u8 ((m : Nat) : Int)]) (t := 24) (by simp) 1
            have zv2 : W34.cell? ⟨gz, 2, none⟩ = some (.int .u8 ((m : Nat) : Int)) := (unhide HK33).cell (g := gz) (cs := #[.int .u64 ((yk : Nat) : Int), .int .u64 ((e7 : Nat) : Int), .int .u8 ((m : Nat) : Int)]) (t := 24) (by simp) 2
            have wv0 : W34.cell? ⟨gw, 0, none⟩ = some (.int .u64 ((yk : Nat) : Int)) := (unhide HK33).cell (g := gw) (cs := #[.int .u64 ((yk : Nat) : Int), .int .u64 ((e7 : Nat) : Int), .int .u8 ((m : Nat) : Int)]) (t := 24) (by simp) 0
            have wv1 : W34.cell? ⟨gw, 1, none⟩ = some (.int .u64 ((e7 : Nat) : Int)) := (unhide HK33).cell (g := gw) (cs := #[.int .u64 ((yk : Nat) : Int), .int .u64 ((e7 : Nat) : Int), .int .u8 ((m : Nat) : Int)]) (t := 24) (by simp) 1
            have wv2 : W34.cell? ⟨gw, 2, none⟩ = some (.int .u8 ((m : Nat) : Int)) := (unhide HK33).cell (g := gw) (cs := #[.int .u64 ((yk : Nat) : Int), .int .u64 ((e7 : Nat) : Int), .int .u8 ((m : Nat) : Int)]) (t := 24) (by simp) 2
            have yv0 : W34.cell? ⟨gy, 0, none⟩ = some (.int .u64 ((kk : Nat) : Int)) := (unhide HK33).cell (g := gy) (cs := #[.int .u64 ((kk : Nat) : Int), .int .u64 ((e7 : Nat) : Int), .int .u8 ((m : Nat) : Int)]) (t := 24) (by simp) 0
            have yv1 : W34.cell? ⟨gy, 1, none⟩ = some (.int .u64 ((e7 : Nat) : Int)) := (unhide HK33).cell (g := gy) (cs := #[.int .u64 ((kk : Nat) : Int), .int .u64 ((e7 : Nat) : Int), .int .u8 ((m : Nat) : Int)]) (t := 24) (by simp) 1
            have yv2 : W34.cell? ⟨gy, 2, none⟩ = some (.int .u8 ((m : Nat) : Int)) := (unhide HK33).cell (g := gy) (cs := #[.int .u64 ((kk : Nat) : Int), .int .u64 ((e7 : Nat) : Int), .int .u8 ((m : Nat) : Int)]) (t := 24) (by simp) 2
            go_wp2_with fail
            refine (unhide HA _).mono ?_
            rintro x W35 ⟨rfl, hb35⟩
            have HFIN : Hid (Below w.heap.size w W35) := (unhide HK33).bb.trans (hb35.mono (unhide HK33).bb.size)
            clear hb35
            go_wp2_with fail
            go_ret
            exact ⟨rfl, unhide HFIN⟩
          · have z1 : ¬ (j : Int) = 0 := by omega
            have z2 : ((j : Int) == 0) = false := beq_eq_false_iff_ne.2 z1
            clear hj0
            have yv0 : Wz.cell? ⟨gy, 0, none⟩ = some (.int .u64 ((kk : Nat) : Int)) := (unhide HK25).cell (g := gy) (cs := #[.int .u64 ((kk : Nat) : Int), .int .u64 ((e7 : Nat) : Int), .int .u8 ((m : Nat) : Int)]) (t := 24) (by simp) 0
            have yv1 : Wz.cell? ⟨gy, 1, none⟩ = some (.int .u64 ((e7 : Nat) : Int)) := (unhide HK25).cell (g := gy) (cs := #[.int .u64 ((kk : Nat) : Int), .int .u64 ((e7 : Nat) : Int), .int .u8 ((m : Nat) : Int)]) (t := 24) (by simp) 1
            have yv2 : Wz.cell? ⟨gy, 2, none⟩ = some (.int .u8 ((m : Nat) : Int)) := (unhide HK25).cell (g := gy) (cs := #[.int .u64 ((kk : Nat) : Int), .int .u64 ((e7 : Nat) : Int), .int .u8 ((m : Nat) : Int)]) (t := 24) (by simp) 2
            have nv0 : Wz.cell? ⟨gn, 0, none⟩ = some (.int .u64 ((kk : Nat) : Int)) := (unhide HK25).cell (g := gn) (cs := #[.int .u64 ((kk : Nat) : Int), .int .u64 ((e7 : Nat) : Int), .int .u8 ((m : Nat) : Int)]) (t := 24) (by simp) 0
            have nv1 : Wz.cell? ⟨gn, 1, none⟩ = some (.int .u64 ((e7 : Nat) : Int)) := (unhide HK25).cell (g := gn) (cs := #[.int .u64 ((kk : Nat) : Int), .int .u64 ((e7 : Nat) : Int), .int .u8 ((m : Nat) : Int)]) (t := 24) (by simp) 1
            have nv2 : Wz.cell? ⟨gn, 2, none⟩ = some (.int .u8 ((m : Nat) : Int)) := (unhide HK25).cell (g := gn) (cs := #[.int .u64 ((kk : Nat) : Int), .int .u64 ((e7 : Nat) : Int), .int .u8 ((m : Nat) : Int)]) (t := 24) (by simp) 2
            have cv0 : Wz.cell? ⟨g, 0, none⟩ = some (.int .u64 ((s : Nat) : Int)) := (unhide HK25).cell (g := g) (cs := #[.int .u64 ((s : Nat) : Int), .int .u64 ((e : Nat) : Int), .int .u8 ((l : Nat) : Int)]) (t := 24) (by simp) 0
            have cv1 : Wz.cell? ⟨g, 1, none⟩ = some (.int .u64 ((e : Nat) : Int)) := (unhide HK25).cell (g := g) (cs := #[.int .u64 ((s : Nat) : Int), .int .u64 ((e : Nat) : Int), .int .u8 ((l : Nat) : Int)]) (t := 24) (by simp) 1
            have cv2 : Wz.cell? ⟨g, 2, none⟩ = some (.int .u8 ((l : Nat) : Int)) := (unhide HK25).cell (g := g) (cs := #[.int .u64 ((s : Nat) : Int), .int .u64 ((e : Nat) : Int), .int .u8 ((l : Nat) : Int)]) (t := 24) (by simp) 2
            have HKz := hide ((unhide HK25).less (M' := [(gy, Obj.cells #[.int .u64 ((kk : Nat) : Int), .int .u64 ((e7 : Nat) : Int), .int .u8 ((m : Nat) : Int)] 24 (0, 0))]) (by simp))
            have v1 : ¬ (kk : Int) = (s : Int) := by have := unhide HKK; omega
            have v2 : ((kk : Int) == (s : Int)) = false := beq_eq_false_iff_ne.2 v1
            clear HK25 hws
            go_upto_region 33 with fail
            clear nv0 nv1 nv2 yv0 yv1 yv2 cv0 cv1 cv2 v1 v2
            obtain ⟨yk, hyk⟩ : ∃ yk, yk = kk + 1 := ⟨_, rfl⟩
            have HYK := hide hyk
            have hwy : IntKind.u64.wrap ((kk : Int) + 1) = ((yk : Nat) : Int) := by have := unhide HSB; have := unhide HKK; rw [IntKind.wrap_u64]; omega
            clear hyk
            have HFY : Hid (HeadD.mk kk e7 m).fits := (unhide HGD).fits
            have HSY := hide ((unhide HGD).save (h := ⟨kk, e7, m⟩) rfl (unhide HFY) (HeadD.right_iff.1 (unhide HGD).right).2 (by show kk + 1 < _; have := unhide HSB; have := unhide HKK; omega))
            have HNY : Hid ((HeadD.mk kk e7 m).next = ⟨yk, e7, m⟩) := by
              show HeadD.mk ((kk + 1) % 18446744073709551616) e7 m = _
              rw [Nat.mod_eq_of_lt (by have := unhide HSB; have := unhide HKK; omega), ← unhide HYK]
            have yv0 : Wz.cell? ⟨gy, 0, none⟩ = some (.int .u64 ((kk : Nat) : Int)) := (unhide HKz).cell (g := gy) (cs := #[.int .u64 ((kk : Nat) : Int), .int .u64 ((e7 : Nat) : Int), .int .u8 ((m : Nat) : Int)]) (t := 24) (by simp) 0
            have yv1 : Wz.cell? ⟨gy, 1, none⟩ = some (.int .u64 ((e7 : Nat) : Int)) := (unhide HKz).cell (g := gy) (cs := #[.int .u64 ((kk : Nat) : Int), .int .u64 ((e7 : Nat) : Int), .int .u8 ((m : Nat) : Int)]) (t := 24) (by simp) 1
            have yv2 : Wz.cell? ⟨gy, 2, none⟩ = some (.int .u8 ((m : Nat) : Int)) := (unhide HKz).cell (g := gy) (cs := #[.int .u64 ((kk : Nat) : Int), .int .u64 ((e7 : Nat) : Int), .int .u8 ((m : Nat) : Int)]) (t := 24) (by simp) 2
            go_wp2_with fail
            refine (kbSave (unhide HO) (unhide HKz) kk e7 m yk e7 m 0 (unhide HFY) (unhide HSY).1 ((unhide HSY).2.1.trans (unhide HNY))).mono ?_
            rintro x W31 ⟨rfl, hk31⟩
            have HK31 := hide (hk31.new (.cells #[.int .u64 ((yk : Nat) : Int), .int .u64 ((e7 : Nat) : Int), .int .u8 ((m : Nat) : Int)] 24))
            have HG31 : Hid (Good (saveD B ⟨kk, e7, m⟩) ⟨yk, e7, m⟩) := by
              have h3 := (unhide HSY).2.2
              rw [unhide HNY] at h3
              exact h3
            clear hk31 yv0 yv1 yv2 HSY
            generalize saveD B ⟨kk, e7, m⟩ = B2 at *
            go_upto_region 34 with fail
            generalize W31.alloc (.cells #[.int .u64 ((yk : Nat) : Int), .int .u64 ((e7 : Nat) : Int), .int .u8 ((m : Nat) : Int)] 24) = W32 at *
            generalize W31.heap.size = gz at *
            go_wp2_with fail
            refine (kbLoad (unhide HO) (unhide HK31) yk e7 m 0 (unhide HG31).load.1 (unhide HG31).load.2).mono ?_
            rintro x W33 ⟨rfl, hk33⟩
            have HK33 := hide (hk33.new (.cells #[.int .u64 ((yk : Nat) : Int), .int .u64 ((e7 : Nat) : Int), .int .u8 ((m : Nat) : Int)] 24))
            clear hk33 HK31
            go_upto_region 35 with fail
            generalize W33.alloc (.cells #[.int .u64 ((yk : Nat) : Int), .int .u64 ((e7 : Nat) : Int), .int .u8 ((m : Nat) : Int)] 24) = W34 at *
            generalize W33.heap.size = gw at *
            have zv0 : W34.cell? ⟨gz, 0, none⟩ = some (.int .u64 ((yk : Nat) : Int)) := (unhide HK33).cell (g := gz) (cs := #[.int .u64 ((yk : Nat) : Int), .int .u64 ((e7 : Nat) : Int), .int .u8 ((m : Nat) : Int)]) (t := 24) (by simp) 0
            have zv1 : W34.cell? ⟨gz, 1, none⟩ = some (.int .u64 ((e7 : Nat) : Int)) := (unhide HK33).cell (g := gz) (cs := #[.int .u64 ((yk : Nat) : Int), .int .u64 ((e7 : Nat) : Int), .int .u8 ((m : Nat) : Int)]) (t := 24) (by simp) 1
            have zv2 : W34.cell? ⟨gz, 2, none⟩ = some (.int .u8 ((m : Nat) : Int)) := (unhide HK33).cell (g := gz) (cs := #[.int .u64 ((yk : Nat) : Int), .int .u64 ((e7 : Nat) : Int), .int .u8 ((m : Nat) : Int)]) (t := 24) (by simp) 2
            have wv0 : W34.cell? ⟨gw, 0, none⟩ = some (.int .u64 ((yk : Nat) : Int)) := (unhide HK33).cell (g := gw) (cs := #[.int .u64 ((yk : Nat) : Int), .int .u64 ((e7 : Nat) : Int), .int .u8 ((m : Nat) : Int)]) (t := 24) (by simp) 0
            have wv1 : W34.cell? ⟨gw, 1, none⟩ = some (.int .u64 ((e7 : Nat) : Int)) := (unhide HK33).cell (g := gw) (cs := #[.int .u64 ((yk : Nat) : Int), .int .u64 ((e7 : Nat) : Int), .int .u8 ((m : Nat) : Int)]) (t := 24) (by simp) 1
            have wv2 : W34.cell? ⟨gw, 2, none⟩ = some (.int .u8 ((m : Nat) : Int)) := (unhide HK33).cell (g := gw) (cs := #[.int .u64 ((yk : Nat) : Int), .int .u64 ((e7 : Nat) : Int), .int .u8 ((m : Nat) : Int)]) (t := 24) (by simp) 2
            have yv0 : W34.cell? ⟨gy, 0, none⟩ = some (.int .u64 ((kk : Nat) : Int)) := (unhide HK33).cell (g := gy) (cs := #[.int .u64 ((kk : Nat) : Int), .int .u64 ((e7 : Nat) : Int), .int .u8 ((m : Nat) : Int)]) (t := 24) (by simp) 0
            have yv1 : W34.cell? ⟨gy, 1, none⟩ = some (.int .u64 ((e7 : Nat) : Int)) := (unhide HK33).cell (g := gy) (cs := #[.int .u64 ((kk : Nat) : Int), .int .u64 ((e7 : Nat) : Int), .int .u8 ((m : Nat) : Int)]) (t := 24) (by simp) 1
            have yv2 : W34.cell? ⟨gy, 2, none⟩ = some (.int .u8 ((m : Nat) : Int)) := (unhide HK33).cell (g := gy) (cs := #[.int .u64 ((kk : Nat) : Int), .int .u64 ((e7 : Nat) : Int), .int .u8 ((m : Nat) : Int)]) (t := 24) (by simp) 2
            go_wp2_with fail
            refine (unhide HA _).mono ?_
            rintro x W35 ⟨rfl, hb35⟩
            have HFIN : Hid (Below w.heap.size w W35) := (unhide HK33).bb.trans (hb35.mono (unhide HK33).bb.size)
            clear hb35
            go_wp2_with fail
            go_ret
            exact ⟨rfl, unhide HFIN⟩
        · have HGD := hide hg
          have HLD := hide hg.load
          clear hg HKX
          refine (kbLoad (unhide HO) (unhide HKB) s e l 0 (unhide HLD).1 (unhide HLD).2).mono ?_
          rintro x W23 ⟨rfl, hk23⟩
          have HK24 := hide ((hk23.new (.cells #[.int .u64 ((s : Nat) : Int), .int .u64 ((e : Nat) : Int), .int .u8 ((l : Nat) : Int)] 24)).less (M' := [(gn, Obj.cells #[.int .u64 ((s : Nat) : Int), .int .u64 ((e7 : Nat) : Int), .int .u8 ((m : Nat) : Int)] 24 (0, 0)), (W23.heap.size, Obj.cells #[.int .u64 ((s : Nat) : Int), .int .u64 ((e : Nat) : Int), .int .u8 ((l : Nat) : Int)] 24 (0, 0)), (gx, Obj.cells #[.int .u64 0, .int .u64 0, .int .u8 0] 24 (0, 0)), (g, Obj.cells #[.int .u64 ((s : Nat) : Int), .int .u64 ((e : Nat) : Int), .int .u8 ((l : Nat) : Int)] 24 (0, 0))]) (by simp))
          have HGY : Hid (gn < W23.heap.size) := (Array.getElem?_eq_some_iff.1 (hk23.ce (gn, Obj.cells #[.int .u64 ((s : Nat) : Int), .int .u64 ((e7 : Nat) : Int), .int .u8 ((m : Nat) : Int)] 24 (0, 0)) (by simp))).1
          clear hk23 HKB
          go_upto_region 25 with fail
          generalize W23.alloc (.cells #[.int .u64 ((s : Nat) : Int), .int .u64 ((e : Nat) : Int), .int .u8 ((l : Nat) : Int)] 24) = W24 at *
          generalize W23.heap.size = gy at *
          have n0 : W24.cell? ⟨gn, 0, none⟩ = some (.int .u64 ((s : Nat) : Int)) := (unhide HK24).cell (g := gn) (cs := #[.int .u64 ((s : Nat) : Int), .int .u64 ((e7 : Nat) : Int), .int .u8 ((m : Nat) : Int)]) (t := 24) (by simp) 0
          have nf := (unhide HK24).frozen (g := gn) (cs := #[.int .u64 ((s : Nat) : Int), .int .u64 ((e7 : Nat) : Int), .int .u8 ((m : Nat) : Int)]) (t := 24) (by simp) 0
          have HK25 := hide ((unhide HK24).set (by have := unhide HGN; omega) (by have h1 := unhide HGN; have h2 := unhide HGY; intro q hq; simp only [List.mem_cons, List.not_mem_nil, or_false] at hq; rcases hq with rfl | rfl | rfl <;> simp only <;> omega) 0 (.int .u64 ((kk : Nat) : Int)))
          replace HK25 : Hid (Kb w (W24.setCell ⟨gn, 0, none⟩ (.int .u64 ((kk : Nat) : Int))) [(gn, Obj.cells #[.int .u64 ((kk : Nat) : Int), .int .u64 ((e7 : Nat) : Int), .int .u8 ((m : Nat) : Int)] 24 (0, 0)), (gy, Obj.cells #[.int .u64 ((s : Nat) : Int), .int .u64 ((e : Nat) : Int), .int .u8 ((l : Nat) : Int)] 24 (0, 0)), (gx, Obj.cells #[.int .u64 0, .int .u64 0, .int .u8 0] 24 (0, 0)), (g, Obj.cells #[.int .u64 ((s : Nat) : Int), .int .u64 ((e : Nat) : Int), .int .u8 ((l : Nat) : Int)] 24 (0, 0))] p B) := HK25
          go_upto_region 26 with fail
          generalize W24.setCell ⟨gn, 0, none⟩ (.int .u64 ((kk : Nat) : Int)) = Wz at *
          clear n0 nf HK24
          by_cases hj0 : j = 0
          · have z1 : (j : Int) = 0 := by omega
            have z2 : ((j : Int) == 0) = true := beq_iff_eq.2 z1
            clear hj0
            have yv0 : Wz.cell? ⟨gy, 0, none⟩ = some (.int .u64 ((s : Nat) : Int)) := (unhide HK25).cell (g := gy) (cs := #[.int .u64 ((s : Nat) : Int), .int .u64 ((e : Nat) : Int), .int .u8 ((l : Nat) : Int)]) (t := 24) (by simp) 0
            have yv1 : Wz.cell? ⟨gy, 1, none⟩ = some (.int .u64 ((e : Nat) : Int)) := (unhide HK25).cell (g := gy) (cs := #[.int .u64 ((s : Nat) : Int), .int .u64 ((e : Nat) : Int), .int .u8 ((l : Nat) : Int)]) (t := 24) (by simp) 1
            have yv2 : Wz.cell? ⟨gy, 2, none⟩ = some (.int .u8 ((l : Nat) : Int)) := (unhide HK25).cell (g := gy) (cs := #[.int .u64 ((s : Nat) : Int), .int .u64 ((e : Nat) : Int), .int .u8 ((l : Nat) : Int)]) (t := 24) (by simp) 2
            have cv0 : Wz.cell? ⟨g, 0, none⟩ = some (.int .u64 ((s : Nat) : Int)) := (unhide HK25).cell (g := g) (cs := #[.int .u64 ((s : Nat) : Int), .int .u64 ((e : Nat) : Int), .int .u8 ((l : Nat) : Int)]) (t := 24) (by simp) 0
            have cv1 : Wz.cell? ⟨g, 1, none⟩ = some (.int .u64 ((e : Nat) : Int)) := (unhide HK25).cell (g := g) (cs := #[.int .u64 ((s : Nat) : Int), .int .u64 ((e : Nat) : Int), .int .u8 ((l : Nat) : Int)]) (t := 24) (by simp) 1
            have cv2 : Wz.cell? ⟨g, 2, none⟩ = some (.int .u8 ((l : Nat) : Int)) := (unhide HK25).cell (g := g) (cs := #[.int .u64 ((s : Nat) : Int), .int .u64 ((e : Nat) : Int), .int .u8 ((l : Nat) : Int)]) (t := 24) (by simp) 2
            have HKz := hide ((unhide HK25).less (M' := [(gy, Obj.cells #[.int .u64 ((s : Nat) : Int), .int .u64 ((e : Nat) : Int), .int .u8 ((l : Nat) : Int)] 24 (0, 0))]) (by simp))
            clear HK25 hws
            go_upto_region 33 with fail
            clear yv0 yv1 yv2 cv0 cv1 cv2
            obtain ⟨yk, hyk⟩ : ∃ yk, yk = s + 1 := ⟨_, rfl⟩
            have HYK := hide hyk
            have hwy : IntKind.u64.wrap ((s : Int) + 1) = ((yk : Nat) : Int) := by have := unhide HSB; have := unhide HKK; rw [IntKind.wrap_u64]; omega
            clear hyk
            have HFY : Hid (HeadD.mk s e l).fits := (unhide HGD).fits
            have HSY := hide ((unhide HGD).save (h := ⟨s, e, l⟩) rfl (unhide HFY) (HeadD.right_iff.1 (unhide HGD).right).2 (by show s + 1 < _; have := unhide HSB; have := unhide HKK; omega))
            have HNY : Hid ((HeadD.mk s e l).next = ⟨yk, e, l⟩) := by
              show HeadD.mk ((s + 1) % 18446744073709551616) e l = _
              rw [Nat.mod_eq_of_lt (by have := unhide HSB; have := unhide HKK; omega), ← unhide HYK]
            have yv0 : Wz.cell? ⟨gy, 0, none⟩ = some (.int .u64 ((s : Nat) : Int)) := (unhide HKz).cell (g := gy) (cs := #[.int .u64 ((s : Nat) : Int), .int .u64 ((e : Nat) : Int), .int .u8 ((l : Nat) : Int)]) (t := 24) (by simp) 0
            have yv1 : Wz.cell? ⟨gy, 1, none⟩ = some (.int .u64 ((e : Nat) : Int)) := (unhide HKz).cell (g := gy) (cs := #[.int .u64 ((s : Nat) : Int), .int .u64 ((e : Nat) : Int), .int .u8 ((l : Nat) : Int)]) (t := 24) (by simp) 1
            have yv2 : Wz.cell? ⟨gy, 2, none⟩ = some (.int .u8 ((l : Nat) : Int)) := (unhide HKz).cell (g := gy) (cs := #[.int .u64 ((s : Nat) : Int), .int .u64 ((e : Nat) : Int), .int .u8 ((l : Nat) : Int)]) (t := 24) (by simp) 2
            go_wp2_with fail
            refine (kbSave (unhide HO) (unhide HKz) s e l yk e l 0 (unhide HFY) (unhide HSY).1 ((unhide HSY).2.1.trans (unhide HNY))).mono ?_
            rintro x W31 ⟨rfl, hk31⟩
            have HK31 := hide (hk31.new (.cells #[.int .u64 ((yk : Nat) : Int), .int .u64 ((e : Nat) : Int), .int .u8 ((l : Nat) : Int)] 24))
            have HG31 : Hid (Good (saveD B ⟨s, e, l⟩) ⟨yk, e, l⟩) := by
              have h3 := (unhide HSY).2.2
              rw [unhide HNY] at h3
              exact h3
            clear hk31 yv0 yv1 yv2 HSY
            generalize saveD B ⟨s, e, l⟩ = B2 at *
            go_upto_region 34 with fail
            generalize W31.alloc (.cells #[.int .u64 ((yk : Nat) : Int), .int .u64 ((e : Nat) : Int), .int .u8 ((l : Nat) : Int)] 24) = W32 at *
            generalize W31.heap.size = gz at *
            go_wp2_with fail
            refine (kbLoad (unhide HO) (unhide HK31) yk e l 0 (unhide HG31).load.1 (unhide HG31).load.2).mono ?_
            rintro x W33 ⟨rfl, hk33⟩
            have HK33 := hide (hk33.new (.cells #[.int .u64 ((yk : Nat) : Int), .int .u64 ((e : Nat) : Int), .int .u8 ((l : Nat) : Int)] 24))
            clear hk33 HK31
            go_upto_region 35 with fail
            generalize W33.alloc (.cells #[.int .u64 ((yk : Nat) : Int), .int .u64 ((e : Nat) : Int), .int .u8 ((l : Nat) : Int)] 24) = W34 at *
            generalize W33.heap.size = gw at *
            have zv0 : W34.cell? ⟨gz, 0, none⟩ = some (.int .u64 ((yk : Nat) : Int)) := (unhide HK33).cell (g := gz) (cs := #[.int .u64 ((yk : Nat) : Int), .int .u64 ((e : Nat) : Int), .int .u8 ((l : Nat) : Int)]) (t := 24) (by simp) 0
            have zv1 : W34.cell? ⟨gz, 1, none⟩ = some (.int .u64 ((e : Nat) : Int)) := (unhide HK33).cell (g := gz) (cs := #[.int .u64 ((yk : Nat) : Int), .int .u64 ((e : Nat) : Int), .int .u8 ((l : Nat) : Int)]) (t := 24) (by simp) 1
            have zv2 : W34.cell? ⟨gz, 2, none⟩ = some (.int .u8 ((l : Nat) : Int)) := (unhide HK33).cell (g := gz) (cs := #[.int .u64 ((yk : Nat) : Int), .int .u64 ((e : Nat) : Int), .int .u8 ((l : Nat) : Int)]) (t := 24) (by simp) 2
            have wv0 : W34.cell? ⟨gw, 0, none⟩ = some (.int .u64 ((yk : Nat) : Int)) := (unhide HK33).cell (g := gw) (cs := #[.int .u64 ((yk : Nat) : Int), .int .u64 ((e : Nat) : Int), .int .u8 ((l : Nat) : Int)]) (t := 24) (by simp) 0
            have wv1 : W34.cell? ⟨gw, 1, none⟩ = some (.int .u64 ((e : Nat) : Int)) := (unhide HK33).cell (g := gw) (cs := #[.int .u64 ((yk : Nat) : Int), .int .u64 ((e : Nat) : Int), .int .u8 ((l : Nat) : Int)]) (t := 24) (by simp) 1
            have wv2 : W34.cell? ⟨gw, 2, none⟩ = some (.int .u8 ((l : Nat) : Int)) := (unhide HK33).cell (g := gw) (cs := #[.int .u64 ((yk : Nat) : Int), .int .u64 ((e : Nat) : Int), .int .u8 ((l : Nat) : Int)]) (t := 24) (by simp) 2
            have yv0 : W34.cell? ⟨gy, 0, none⟩ = some (.int .u64 ((s : Nat) : Int)) := (unhide HK33).cell (g := gy) (cs := #[.int .u64 ((s : Nat) : Int), .int .u64 ((e : Nat) : Int), .int .u8 ((l : Nat) : Int)]) (t := 24) (by simp) 0
            have yv1 : W34.cell? ⟨gy, 1, none⟩ = some (.int .u64 ((e : Nat) : Int)) := (unhide HK33).cell (g := gy) (cs := #[.int .u64 ((s : Nat) : Int), .int .u64 ((e : Nat) : Int), .int .u8 ((l : Nat) : Int)]) (t := 24) (by simp) 1
            have yv2 : W34.cell? ⟨gy, 2, none⟩ = some (.int .u8 ((l : Nat) : Int)) := (unhide HK33).cell (g := gy) (cs := #[.int .u64 ((s : Nat) : Int), .int .u64 ((e : Nat) : Int), .int .u8 ((l : Nat) : Int)]) (t := 24) (by simp) 2
            go_wp2_with fail
            refine (unhide HA _).mono ?_
            rintro x W35 ⟨rfl, hb35⟩
            have HFIN : Hid (Below w.heap.size w W35) := (unhide HK33).bb.trans (hb35.mono (unhide HK33).bb.size)
            clear hb35
            go_wp2_with fail
            go_ret
            exact ⟨rfl, unhide HFIN⟩
          · have z1 : ¬ (j : Int) = 0 := by omega
            have z2 : ((j : Int) == 0) = false := beq_eq_false_iff_ne.2 z1
            clear hj0
            have yv0 : Wz.cell? ⟨gy, 0, none⟩ = some (.int .u64 ((s : Nat) : Int)) := (unhide HK25).cell (g := gy) (cs := #[.int .u64 ((s : Nat) : Int), .int .u64 ((e : Nat) : Int), .int .u8 ((l : Nat) : Int)]) (t := 24) (by simp) 0
            have yv1 : Wz.cell? ⟨gy, 1, none⟩ = some (.int .u64 ((e : Nat) : Int)) := (unhide HK25).cell (g := gy) (cs := #[.int .u64 ((s : Nat) : Int), .int .u64 ((e : Nat) : Int), .int .u8 ((l : Nat) : Int)]) (t := 24) (by simp) 1
            have yv2 : Wz.cell? ⟨gy, 2, none⟩ = some (.int .u8 ((l : Nat) : Int)) := (unhide HK25).cell (g := gy) (cs := #[.int .u64 ((s : Nat) : Int), .int .u64 ((e : Nat) : Int), .int .u8 ((l : Nat) : Int)]) (t := 24) (by simp) 2
            have cv0 : Wz.cell? ⟨g, 0, none⟩ = some (.int .u64 ((s : Nat) : Int)) := (unhide HK25).cell (g := g) (cs := #[.int .u64 ((s : Nat) : Int), .int .u64 ((e : Nat) : Int), .int .u8 ((l : Nat) : Int)]) (t := 24) (by simp) 0
            have cv1 : Wz.cell? ⟨g, 1, none⟩ = some (.int .u64 ((e : Nat) : Int)) := (unhide HK25).cell (g := g) (cs := #[.int .u64 ((s : Nat) : Int), .int .u64 ((e : Nat) : Int), .int .u8 ((l : Nat) : Int)]) (t := 24) (by simp) 1
            have cv2 : Wz.cell? ⟨g, 2, none⟩ = some (.int .u8 ((l : Nat) : Int)) := (unhide HK25).cell (g := g) (cs := #[.int .u64 ((s : Nat) : Int), .int .u64 ((e : Nat) : Int), .int .u8 ((l : Nat) : Int)]) (t := 24) (by simp) 2
            have HKz := hide ((unhide HK25).less (M' := [(gy, Obj.cells #[.int .u64 ((s : Nat) : Int), .int .u64 ((e : Nat) : Int), .int .u8 ((l : Nat) : Int)] 24 (0, 0))]) (by simp))
            clear HK25 hws
            go_upto_region 33 with fail
            clear yv0 yv1 yv2 cv0 cv1 cv2
            obtain ⟨yk, hyk⟩ : ∃ yk, yk = s + 1 := ⟨_, rfl⟩
            have HYK := hide hyk
            have hwy : IntKind.u64.wrap ((s : Int) + 1) = ((yk : Nat) : Int) := by have := unhide HSB; have := unhide HKK; rw [IntKind.wrap_u64]; omega
            clear hyk
            have HFY : Hid (HeadD.mk s e l).fits := (unhide HGD).fits
            have HSY := hide ((unhide HGD).save (h := ⟨s, e, l⟩) rfl (unhide HFY) (HeadD.right_iff.1 (unhide HGD).right).2 (by show s + 1 < _; have := unhide HSB; have := unhide HKK; omega))
            have HNY : Hid ((HeadD.mk s e l).next = ⟨yk, e, l⟩) := by
              show HeadD.mk ((s + 1) % 18446744073709551616) e l = _
              rw [Nat.mod_eq_of_lt (by have := unhide HSB; have := unhide HKK; omega), ← unhide HYK]
            have yv0 : Wz.cell? ⟨gy, 0, none⟩ = some (.int .u64 ((s : Nat) : Int)) := (unhide HKz).cell (g := gy) (cs := #[.int .u64 ((s : Nat) : Int), .int .u64 ((e : Nat) : Int), .int .u8 ((l : Nat) : Int)]) (t := 24) (by simp) 0
            have yv1 : Wz.cell? ⟨gy, 1, none⟩ = some (.int .u64 ((e : Nat) : Int)) := (unhide HKz).cell (g := gy) (cs := #[.int .u64 ((s : Nat) : Int), .int .u64 ((e : Nat) : Int), .int .u8 ((l : Nat) : Int)]) (t := 24) (by simp) 1
            have yv2 : Wz.cell? ⟨gy, 2, none⟩ = some (.int .u8 ((l : Nat) : Int)) := (unhide HKz).cell (g := gy) (cs := #[.int .u64 ((s : Nat) : Int), .int .u64 ((e : Nat) : Int), .int .u8 ((l : Nat) : Int)]) (t := 24) (by simp) 2
            go_wp2_with fail
            refine (kbSave (unhide HO) (unhide HKz) s e l yk e l 0 (unhide HFY) (unhide HSY).1 ((unhide HSY).2.1.trans (unhide HNY))).mono ?_
            rintro x W31 ⟨rfl, hk31⟩
            have HK31 := hide (hk31.new (.cells #[.int .u64 ((yk : Nat) : Int), .int .u64 ((e : Nat) : Int), .int .u8 ((l : Nat) : Int)] 24))
            have HG31 : Hid (Good (saveD B ⟨s, e, l⟩) ⟨yk, e, l⟩) := by
              have h3 := (unhide HSY).2.2
              rw [unhide HNY] at h3
              exact h3
            clear hk31 yv0 yv1 yv2 HSY
            generalize saveD B ⟨s, e, l⟩ = B2 at *
            go_upto_region 34 with fail
            generalize W31.alloc (.cells #[.int .u64 ((yk : Nat) : Int), .int .u64 ((e : Nat) : Int), .int .u8 ((l : Nat) : Int)] 24) = W32 at *
            generalize W31.heap.size = gz at *
            go_wp2_with fail
            refine (kbLoad (unhide HO) (unhide HK31) yk e l 0 (unhide HG31).load.1 (unhide HG31).load.2).mono ?_
            rintro x W33 ⟨rfl, hk33⟩
            have HK33 := hide (hk33.new (.cells #[.int .u64 ((yk : Nat) : Int), .int .u64 ((e : Nat) : Int), .int .u8 ((l : Nat) : Int)] 24))
            clear hk33 HK31
            go_upto_region 35 with fail
            generalize W33.alloc (.cells #[.int .u64 ((yk : Nat) : Int), .int .u64 ((e : Nat) : Int), .int .u8 ((l : Nat) : Int)] 24) = W34 at *
            generalize W33.heap.size = gw at *
            have zv0 : W34.cell? ⟨gz, 0, none⟩ = some (.int .u64 ((yk : Nat) : Int)) := (unhide HK33).cell (g := gz) (cs := #[.int .u64 ((yk : Nat) : Int), .int .u64 ((e : Nat) : Int), .int .u8 ((l : Nat) : Int)]) (t := 24) (by simp) 0
            have zv1 : W34.cell? ⟨gz, 1, none⟩ = some (.int .u64 ((e : Nat) : Int)) := (unhide HK33).cell (g := gz) (cs := #[.int .u64 ((yk : Nat) : Int), .int .u64 ((e : Nat) : Int), .int .u8 ((l : Nat) : Int)]) (t := 24) (by simp) 1
            have zv2 : W34.cell? ⟨gz, 2, none⟩ = some (.int .u8 ((l : Nat) : Int)) := (unhide HK33).cell (g := gz) (cs := #[.int .u64 ((yk : Nat) : Int), .int .u64 ((e : Nat) : Int), .int .u8 ((l : Nat) : Int)]) (t := 24) (by simp) 2
            have wv0 : W34.cell? ⟨gw, 0, none⟩ = some (.int .u64 ((yk : Nat) : Int)) := (unhide HK33).cell (g := gw) (cs := #[.int .u64 ((yk : Nat) : Int), .int .u64 ((e : Nat) : Int), .int .u8 ((l : Nat) : Int)]) (t := 24) (by simp) 0
            have wv1 : W34.cell? ⟨gw, 1, none⟩ = some (.int .u64 ((e : Nat) : Int)) := (unhide HK33).cell (g := gw) (cs := #[.int .u64 ((yk : Nat) : Int), .int .u64 ((e : Nat) : Int), .int .u8 ((l : Nat) : Int)]) (t := 24) (by simp) 1
            have wv2 : W34.cell? ⟨gw, 2, none⟩ = some (.int .u8 ((l : Nat) : Int)) := (unhide HK33).cell (g := gw) (cs := #[.int .u64 ((yk : Nat) : Int), .int .u64 ((e : Nat) : Int), .int .u8 ((l : Nat) : Int)]) (t := 24) (by simp) 2
            have yv0 : W34.cell? ⟨gy, 0, none⟩ = some (.int .u64 ((s : Nat) : Int)) := (unhide HK33).cell (g := gy) (cs := #[.int .u64 ((s : Nat) : Int), .int .u64 ((e : Nat) : Int), .int .u8 ((l : Nat) : Int)]) (t := 24) (by simp) 0
            have yv1 : W34.cell? ⟨gy, 1, none⟩ = some (.int .u64 ((e : Nat) : Int)) := (unhide HK33).cell (g := gy) (cs := #[.int .u64 ((s : Nat) : Int), .int .u64 ((e : Nat) : Int), .int .u8 ((l : Nat) : Int)]) (t := 24) (by simp) 1
            have yv2 : W34.cell? ⟨gy, 2, none⟩ = some (.int .u8 ((l : Nat) : Int)) := (unhide HK33).cell (g := gy) (cs := #[.int .u64 ((s : Nat) : Int), .int .u64 ((e : Nat) : Int), .int .u8 ((l : Nat) : Int)]) (t := 24) (by simp) 2
            go_wp2_with fail
            refine (unhide HA _).mono ?_
            rintro x W35 ⟨rfl, hb35⟩
            have HFIN : Hid (Below w.heap.size w W35) := (unhide HK33).bb.trans (hb35.mono (unhide HK33).bb.size)
            clear hb35
            go_wp2_with fail
            go_ret
            exact ⟨rfl, unhide HFIN⟩
        · have HLD := hide hld
          have z0 : j = 0 := by have := unhide HSN; have h00 : s = 0 := h0; omega
          have z1 : (j : Int) = 0 := by omega
          have z2 : ((j : Int) == 0) = true := beq_iff_eq.2 z1
          clear hld h0 z0 HKX
          refine (kbLoad (unhide HO) (unhide HKB) 0 0 0 50 (unhide HLD).1 (unhide HLD).2).mono ?_
          rintro x W23 ⟨rfl, hk23⟩
          have HK24 := hide ((hk23.new (.cells #[.int .u64 0, .int .u64 0, .int .u8 0] 24)).less (M' := [(gn, Obj.cells #[.int .u64 ((s : Nat) : Int), .int .u64 ((e7 : Nat) : Int), .int .u8 ((m : Nat) : Int)] 24 (0, 0)), (W23.heap.size, Obj.cells #[.int .u64 0, .int .u64 0, .int .u8 0] 24 (0, 0)), (gx, Obj.cells #[.int .u64 0, .int .u64 0, .int .u8 0] 24 (0, 0)), (g, Obj.cells #[.int .u64 ((s : Nat) : Int), .int .u64 ((e : Nat) : Int), .int .u8 ((l : Nat) : Int)] 24 (0, 0))]) (by simp))
          have HGY : Hid (gn < W23.heap.size) := (Array.getElem?_eq_some_iff.1 (hk23.ce (gn, Obj.cells #[.int .u64 ((s : Nat) : Int), .int .u64 ((e7 : Nat) : Int), .int .u8 ((m : Nat) : Int)] 24 (0, 0)) (by simp))).1
          clear hk23 HKB
          go_upto_region 25 with fail
          generalize W23.alloc (.cells #[.int .u64 0, .int .u64 0, .int .u8 0] 24) = W24 at *
          generalize W23.heap.size = gy at *
          have n0 : W24.cell? ⟨gn, 0, none⟩ = some (.int .u64 ((s : Nat) : Int)) := (unhide HK24).cell (g := gn) (cs := #[.int .u64 ((s : Nat) : Int), .int .u64 ((e7 : Nat) : Int), .int .u8 ((m : Nat) : Int)]) (t := 24) (by simp) 0
          have nf := (unhide HK24).frozen (g := gn) (cs := #[.int .u64 ((s : Nat) : Int), .int .u64 ((e7 : Nat) : Int), .int .u8 ((m : Nat) : Int)]) (t := 24) (by simp) 0
          have HK25 := hide ((unhide HK24).set (by have := unhide HGN; omega) (by have h1 := unhide HGN; have h2 := unhide HGY; intro q hq; simp only [List.mem_cons, List.not_mem_nil, or_false] at hq; rcases hq with rfl | rfl | rfl <;> simp only <;> omega) 0 (.int .u64 ((kk : Nat) : Int)))
          replace HK25 : Hid (Kb w (W24.setCell ⟨gn, 0, none⟩ (.int .u64 ((kk : Nat) : Int))) [(gn, Obj.cells #[.int .u64 ((kk : Nat) : Int), .int .u64 ((e7 : Nat) : Int), .int .u8 ((m : Nat) : Int)] 24 (0, 0)), (gy, Obj.cells #[.int .u64 0, .int .u64 0, .int .u8 0] 24 (0, 0)), (gx, Obj.cells #[.int .u64 0, .int .u64 0, .int .u8 0] 24 (0, 0)), (g, Obj.cells #[.int .u64 ((s : Nat) : Int), .int .u64 ((e : Nat) : Int), .int .u8 ((l : Nat) : Int)] 24 (0, 0))] p B) := HK25
          go_upto_region 26 with fail
          generalize W24.setCell ⟨gn, 0, none⟩ (.int .u64 ((kk : Nat) : Int)) = Wz at *
          clear n0 nf HK24
          go_wp2_with fail
          refine (unhide HA _).mono ?_
          rintro x W35 ⟨rfl, hb35⟩
          have HFIN : Hid (Below w.heap.size w W35) := (unhide HK25).bb.trans (hb35.mono (unhide HK25).bb.size)
          clear hb35
          go_wp2_with fail
          go_ret
          exact ⟨rfl, unhide HFIN⟩

theorem headCrash_any (ho : HeadOk) (ha : HeadAwake) (a : Option Addr) (n c x1 x2 : Nat) (hs : Nat → HeadD) (w : World) (hx : HeadsAt w a n hs) (h1 : x1 < 256) (h2 : x2 < 256) :
    Calls Try.prog 6 #[.slice a n c, .int .u8 ((x1 : Nat) : Int), .int .u8 ((x2 : Nat) : Int)] w fun x w' => x = .returned (.bool true) ∧ Below w.heap.size w w' := by
  by_cases h : 20 < n
  · exact headCrash_out ho ha a n c x1 x2 w h
  · exact headCrash_in ho ha a n c x1 x2 hs w hx (by omega) h1 h2
end Go.Proofs.Ytoabpjdpdcpdlaa
