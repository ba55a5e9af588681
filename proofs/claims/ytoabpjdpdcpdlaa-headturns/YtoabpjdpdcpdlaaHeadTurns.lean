/- HeadTurns, walked over HeadOk. -/
import Derived.Test.YtoabpjdpdcpdlaaHeadKeep
import Derived.Test.YtoabpjdpdcpdlaaHeadRows
namespace Go.Proofs.Ytoabpjdpdcpdlaa
open Go.RowKit

/-- The epoch that was saved last. -/
def ep (xs : Nat → Nat) : Nat → Nat
  | 0 => 0
  | j + 1 => xs j

/-- If what one slot has is spoilt, the other one counts. -/
theorem spoilt_load {A : AD} {h : HeadD} {bs : List UInt8} (hc : Calm A) (hf : h.fits) (hr : h.right = true) (hat : A.sh (h.s % 2) = h.bytes) (i : Nat) (hi : i = (h.s + 1) % 2)
    (hb : ¬ (isHead bs = true ∧ (readH bs).s % 2 = i)) : chE A = 0 ∧ loadE (wrA A i bs) = 0 ∧ loadH (wrA A i bs) = h := by
  have hcalls : A.calls ≠ 0 := by rw [hc.calls]; decide
  have e0 : chE A = 0 := by simp [chE, hc.live, hcalls]
  have e1 : wrA A i bs = A.tick.wrote i bs := by simp [wrA, hc.live, hcalls]
  refine ⟨e0, ?_⟩
  rw [e1]
  have hsh : ∀ j, (A.tick.wrote i bs).sh j = if j = i then bs else A.sh j := fun j => rfl
  refine load_some (show (A.tick.wrote i bs).dead = false from hc.live) (pick_at (X := (A.tick.wrote i bs).sh) hf hr ?_ ?_)
  · rw [hsh, if_neg (by omega)]; exact hat
  · rw [hsh, if_pos hi.symm]
    intro h1 h2
    refine (hb ⟨h1, ?_⟩).elim
    rw [readH_is h1, hi]
    exact h2

/-- An array of bytes that is kept, read. -/
theorem Kb.bytes32 {w W : World} {M : List (Nat × Obj)} {p : Nat} {A : AD} (h : Kb w W M p A) {g : Nat} {cs : Array Value} {t : TypeId} {bs : List UInt8} (hm : (g, Obj.cells cs t (0, 0)) ∈ M) (hc : (bs.map bv).toArray = cs) (hl : bs.length = 32) : Bytes W (.slice (some ⟨g, 0, none⟩) 32 32) bs := by
  refine .inr ⟨⟨g, 0, none⟩, 32, by rw [hl], by omega, by decide, fun j x hx => ?_⟩
  rw [Addr.add_mid, Nat.zero_add, h.cell hm, ← hc]
  simpa using hx

set_option maxRecDepth 100000 in
set_option maxHeartbeats 8000000 in
theorem headTurns_out (ho : HeadOk) (ha : HeadAwake) (a : Option Addr) (n c : Nat) (which : Bool) (cs : Array Value) (w : World) (hn : n < 2 ∨ 30 < n) :
    Calls Try.prog 7 #[.slice a n c, .bool which, .agg cs] w fun x w' => x = .returned (.bool true) ∧ Below w.heap.size w w' := by
  have HO := hide ho
  have HA := hide ha
  clear ho ha
  have HB0 := hide ((Below.refl _ w).alloc (Nat.le_refl _) (.cells cs 65))
  go_enter Try.func7, Try.ntmps7
  go_upto_region 1 with fail
  generalize w.alloc (.cells cs 65) = W1 at *
  go_wp2_with fail
  refine (kbNew (M := []) (unhide HB0) (fun q hq => by cases hq) 0 (by decide) (by decide)).mono ?_
  rintro x W2 ⟨p, rfl, hk2⟩
  have HK2 := hide hk2
  clear hk2 HB0
  rcases hn with h1 | h1
  · have l1 : (n : Int) < 2 := by omega
    clear h1
    go_wp2_with fail
    refine (unhide HA _).mono ?_
    rintro x W10 ⟨rfl, hb10⟩
    have HFIN : Hid (Below w.heap.size w W10) := (unhide HK2).bb.trans (hb10.mono (unhide HK2).bb.size)
    clear hb10
    go_wp2_with fail
    go_ret
    exact ⟨rfl, unhide HFIN⟩
  · have l1 : ¬ (n : Int) < 2 := by omega
    have l2 : (n : Int) > 30 := by omega
    clear h1
    go_wp2_with fail
    refine (unhide HA _).mono ?_
    rintro x W10 ⟨rfl, hb10⟩
    have HFIN : Hid (Below w.heap.size w W10) := (unhide HK2).bb.trans (hb10.mono (unhide HK2).bb.size)
    clear hb10
    go_wp2_with fail
    go_ret
    exact ⟨rfl, unhide HFIN⟩

set_option maxRecDepth 100000 in
set_option maxHeartbeats 8000000 in
theorem headTurns_in (ho : HeadOk) (ha : HeadAwake) (b o n c : Nat) (xs : Nat → Nat) (which : Bool) (bs : List UInt8) (w : World) (hx : ∀ j, j < n → w.cell? ⟨b, o + j, none⟩ = some (.int .u64 ((xs j : Nat) : Int)) ∧ xs j < 18446744073709551616) (hl : bs.length = 32) (hn2 : 2 ≤ n) (hn3 : n ≤ 30) :
    Calls Try.prog 7 #[.slice (some ⟨b, o, none⟩) n c, .bool which, .agg (bs.map bv).toArray] w fun x w' => x = .returned (.bool true) ∧ Below w.heap.size w w' := by
  have HO := hide ho
  have HA := hide ha
  have HL := hide hl
  have HX := hide hx
  obtain ⟨cs, hcs⟩ : ∃ cs, (bs.map bv).toArray = cs := ⟨_, rfl⟩
  rw [hcs]
  have HCS := hide hcs
  have HB0 := hide ((Below.refl _ w).alloc (Nat.le_refl _) (.cells cs 65))
  have HM0 : Hid (∀ q ∈ [(w.heap.size, Obj.cells cs 65 (0, 0))], (w.alloc (.cells cs 65)).heap[q.1]? = some q.2) := fun q hq => by
    rw [List.mem_singleton.1 hq]; exact heap_alloc_new w _
  clear ho ha hl hx hcs
  have l1 : ¬ (n : Int) < 2 := by omega
  have l2 : ¬ (n : Int) > 30 := by omega
  go_enter Try.func7, Try.ntmps7
  go_upto_region 1 with fail
  generalize w.alloc (.cells cs 65) = W1 at *
  go_wp2_with fail
  refine (kbNew (unhide HB0) (unhide HM0) 0 (by decide) (by decide)).mono ?_
  rintro x W2 ⟨p, rfl, hk2⟩
  have HK2 := hide (hk2.new (.cells #[.int .u64 0, .int .u64 0, .int .u8 0] 24))
  have HG : Hid (w.heap.size < W2.heap.size) := (Array.getElem?_eq_some_iff.1 (hk2.ce _ (List.mem_cons_self ..))).1
  clear hk2 HM0 HB0
  go_upto_region 5 with fail
  generalize W2.alloc (.cells #[.int .u64 0, .int .u64 0, .int .u8 0] 24) = W3 at *
  generalize W2.heap.size = g at *
  go_wp2_with fail
  go_loopw [48] (fun i W => ∃ (j : Nat) (A : AD), j ≤ n ∧ i = .int .i64 ((j : Nat) : Int) ∧ Slots A ⟨j, ep xs j, 0⟩ ⟨j - 1, ep xs (j - 1), 0⟩ ∧ Kb w W [(g, Obj.cells #[.int .u64 ((j : Nat) : Int), .int .u64 ((ep xs j : Nat) : Int), .int .u8 0] 24 (0, 0)), (w.heap.size, Obj.cells cs 65 (0, 0))] p A) (fun i _ => n - (intOf i).toNat)
  case atStart => exact ⟨0, _, by omega, rfl, Slots.new 0, unhide HK2⟩
  case round =>
    obtain ⟨j, A, hj, rfl, hS, hK⟩ := hrel
    have HS := hide hS
    have HK := hide hK
    clear hS hK HK2
    by_cases hlt : j < n
    · have hcx := ((unhide HK).bb.cell (p := ⟨b, o + j, none⟩) (World.block_lt_of_cell? _ _ (unhide HX j hlt).1)).trans (unhide HX j hlt).1
      have HXJ := hide (unhide HX j hlt).2
      have HEP : Hid (ep xs (j + 1) = xs j) := rfl
      obtain ⟨y, hy⟩ : ∃ y, xs j = y := ⟨_, rfl⟩
      rw [hy] at hcx HXJ HEP
      have HSV := hide ((unhide HS).save (h := ⟨j, y, 0⟩) rfl ⟨by show j < _; omega, unhide HXJ, by show 0 < 256; decide⟩ (by show 0 ≤ 1; decide) (by show j + 1 < _; omega))
      obtain ⟨k1, hk1⟩ : ∃ k1, k1 = j + 1 := ⟨_, rfl⟩
      have HK0 := hide hk1
      have HNX : Hid ((HeadD.mk j y 0).next = ⟨k1, y, 0⟩) := by
        show HeadD.mk ((j + 1) % 18446744073709551616) y 0 = _
        rw [Nat.mod_eq_of_lt (by omega), hk1]
      have HFT : Hid (HeadD.mk j y 0).fits := ⟨by show j < _; omega, unhide HXJ, by show 0 < 256; decide⟩
      have c0 := (unhide HK).cell (g := g) (cs := #[.int .u64 ((j : Nat) : Int), .int .u64 ((ep xs j : Nat) : Int), .int .u8 0]) (t := 24) (by simp) 0
      have c1 := (unhide HK).cell (g := g) (cs := #[.int .u64 ((j : Nat) : Int), .int .u64 ((ep xs j : Nat) : Int), .int .u8 0]) (t := 24) (by simp) 1
      have f1 := (unhide HK).frozen (g := g) (cs := #[.int .u64 ((j : Nat) : Int), .int .u64 ((ep xs j : Nat) : Int), .int .u8 0]) (t := 24) (by simp) 1
      replace c0 : wr.cell? ⟨g, 0, none⟩ = some (.int .u64 ((j : Nat) : Int)) := c0
      replace c1 : wr.cell? ⟨g, 1, none⟩ = some (.int .u64 ((ep xs j : Nat) : Int)) := c1
      have HK1 : Hid (Kb w (wr.setCell ⟨g, 1, none⟩ (.int .u64 ((y : Nat) : Int))) [(g, Obj.cells #[.int .u64 ((j : Nat) : Int), .int .u64 ((y : Nat) : Int), .int .u8 0] 24 (0, 0)), (w.heap.size, Obj.cells cs 65 (0, 0))] p A) := (unhide HK).set (by have := unhide HG; omega) (by intro q hq; rw [List.mem_singleton.1 hq]; have := unhide HG; show w.heap.size ≠ g; omega) 1 _
      have m1 : (j : Int) < (n : Int) := by omega
      have m2 : ¬ (j : Int) < 0 := by omega
      have hwj : IntKind.i64.wrap ((j : Int) + 1) = ((k1 : Nat) : Int) := by rw [IntKind.wrap_i64]; omega
      have hwj2 : (j : Int) + 1 = ((k1 : Nat) : Int) := by omega
      clear hy hk1
      go_upto_region 9 with fail
      generalize wr.setCell ⟨g, 1, none⟩ (.int .u64 ((y : Nat) : Int)) = W4 at *
      clear c0 c1 f1 hcx
      have c0 : W4.cell? ⟨g, 0, none⟩ = some (.int .u64 ((j : Nat) : Int)) := (unhide HK1).cell (g := g) (cs := #[.int .u64 ((j : Nat) : Int), .int .u64 ((y : Nat) : Int), .int .u8 0]) (t := 24) (by simp) 0
      have c1 : W4.cell? ⟨g, 1, none⟩ = some (.int .u64 ((y : Nat) : Int)) := (unhide HK1).cell (g := g) (cs := #[.int .u64 ((j : Nat) : Int), .int .u64 ((y : Nat) : Int), .int .u8 0]) (t := 24) (by simp) 1
      have c2 : W4.cell? ⟨g, 2, none⟩ = some (.int .u8 0) := (unhide HK1).cell (g := g) (cs := #[.int .u64 ((j : Nat) : Int), .int .u64 ((y : Nat) : Int), .int .u8 0]) (t := 24) (by simp) 2
      go_wp2_with fail
      refine (kbSave (unhide HO) (unhide HK1) j y 0 k1 y 0 0 (unhide HFT) (unhide HSV).1 ((unhide HSV).2.1.trans (unhide HNX))).mono ?_
      rintro x W5 ⟨rfl, hk5⟩
      have HK5 := hide (hk5.new (.cells #[.int .u64 ((k1 : Nat) : Int), .int .u64 ((y : Nat) : Int), .int .u8 0] 24))
      clear hk5 c0 c1 c2
      go_upto_region 10 with fail
      generalize W5.alloc (.cells #[.int .u64 ((k1 : Nat) : Int), .int .u64 ((y : Nat) : Int), .int .u8 0] 24) = W6 at *
      generalize W5.heap.size = g2 at *
      have c0 : W6.cell? ⟨g, 0, none⟩ = some (.int .u64 ((j : Nat) : Int)) := (unhide HK5).cell (g := g) (cs := #[.int .u64 ((j : Nat) : Int), .int .u64 ((y : Nat) : Int), .int .u8 0]) (t := 24) (by simp) 0
      have c1 : W6.cell? ⟨g, 1, none⟩ = some (.int .u64 ((y : Nat) : Int)) := (unhide HK5).cell (g := g) (cs := #[.int .u64 ((j : Nat) : Int), .int .u64 ((y : Nat) : Int), .int .u8 0]) (t := 24) (by simp) 1
      have c2 : W6.cell? ⟨g, 2, none⟩ = some (.int .u8 0) := (unhide HK5).cell (g := g) (cs := #[.int .u64 ((j : Nat) : Int), .int .u64 ((y : Nat) : Int), .int .u8 0]) (t := 24) (by simp) 2
      have f0 := (unhide HK5).frozen (g := g) (cs := #[.int .u64 ((j : Nat) : Int), .int .u64 ((y : Nat) : Int), .int .u8 0]) (t := 24) (by simp) 0
      have f1 := (unhide HK5).frozen (g := g) (cs := #[.int .u64 ((j : Nat) : Int), .int .u64 ((y : Nat) : Int), .int .u8 0]) (t := 24) (by simp) 1
      have f2 := (unhide HK5).frozen (g := g) (cs := #[.int .u64 ((j : Nat) : Int), .int .u64 ((y : Nat) : Int), .int .u8 0]) (t := 24) (by simp) 2
      have d0 : W6.cell? ⟨g2, 0, none⟩ = some (.int .u64 ((k1 : Nat) : Int)) := (unhide HK5).cell (g := g2) (cs := #[.int .u64 ((k1 : Nat) : Int), .int .u64 ((y : Nat) : Int), .int .u8 0]) (t := 24) (by simp) 0
      have d1 : W6.cell? ⟨g2, 1, none⟩ = some (.int .u64 ((y : Nat) : Int)) := (unhide HK5).cell (g := g2) (cs := #[.int .u64 ((k1 : Nat) : Int), .int .u64 ((y : Nat) : Int), .int .u8 0]) (t := 24) (by simp) 1
      have d2 : W6.cell? ⟨g2, 2, none⟩ = some (.int .u8 0) := (unhide HK5).cell (g := g2) (cs := #[.int .u64 ((k1 : Nat) : Int), .int .u64 ((y : Nat) : Int), .int .u8 0]) (t := 24) (by simp) 2
      have HK6 : Hid (Kb w W6 [(g, Obj.cells #[.int .u64 ((j : Nat) : Int), .int .u64 ((y : Nat) : Int), .int .u8 0] 24 (0, 0)), (w.heap.size, Obj.cells cs 65 (0, 0))] p (saveD A ⟨j, y, 0⟩)) := (unhide HK5).less (by simp)
      have HK7 := hide ((unhide HK6).set3 (by have := unhide HG; omega) (by intro q hq; rw [List.mem_singleton.1 hq]; have := unhide HG; show w.heap.size ≠ g; omega) (.int .u64 ((k1 : Nat) : Int)) (.int .u64 ((y : Nat) : Int)) (.int .u8 0))
      go_wp2_with fail
      have e1 := unhide HK0
      subst e1
      refine ⟨⟨j + 1, saveD A ⟨j, y, 0⟩, by omega, by go_num, ?_, ?_⟩, by simp [intOf]; omega⟩
      · have h3 := (unhide HSV).2.2
        rw [unhide HNX] at h3
        rw [unhide HEP]
        exact h3
      · rw [unhide HEP]
        exact unhide HK7
    · have ej : j = n := by omega
      subst ej
      obtain ⟨k1, hk1⟩ : ∃ k1, j = k1 + 1 := ⟨j - 1, by omega⟩
      obtain ⟨k2, hk2⟩ : ∃ k2, j = k2 + 2 := ⟨j - 2, by omega⟩
      have ek1 : j - 1 = k1 := by omega
      obtain ⟨y1, hy1⟩ : ∃ y1, ep xs j = y1 := ⟨_, rfl⟩
      obtain ⟨y0, hy0⟩ : ∃ y0, ep xs k1 = y0 := ⟨_, rfl⟩
      rw [ek1, hy1, hy0] at HS
      rw [hy1] at HK
      have hxk : xs k2 = y0 := by
        rw [← hy0, show k1 = k2 + 1 by omega]; rfl
      have hcx := ((unhide HK).bb.cell (p := ⟨b, o + k2, none⟩) (World.block_lt_of_cell? _ _ (unhide HX k2 (by omega)).1)).trans (unhide HX k2 (by omega)).1
      rw [hxk] at hcx
      have HXK := hide hxk
      obtain ⟨i0, hi0⟩ : ∃ i0, j % 2 = i0 := ⟨_, rfl⟩
      obtain ⟨i1, hi1⟩ : ∃ i1, (j + 1) % 2 = i1 := ⟨_, rfl⟩
      have HI0 := hide hi0
      have HI1 := hide hi1
      have h0 : i0 < 2 := by omega
      have h1 : i1 < 2 := by omega
      have HI02 := hide h0
      have HI12 := hide h1
      have sm := (unhide HS).some (by show j ≠ 0; omega)
      have sm2 := (unhide HS).two (by show 2 ≤ j; omega)
      have HLA : Hid (A.sh i0 = (HeadD.mk j y1 0).bytes) := by rw [← hi0]; exact sm.2
      have HPR : Hid (A.sh i1 = (HeadD.mk k1 y0 0).bytes) := by rw [← hi1]; exact sm2.1
      have HRL := hide (read_bytes (unhide HS).fits sm.1)
      have HRP := hide (read_bytes sm2.2.2.1 sm2.2.2.2)
      have HV0 : Hid ((readH (A.sh i0)).val = .agg #[.int .u64 ((j : Nat) : Int), .int .u64 ((y1 : Nat) : Int), .int .u8 0]) := by show _ = _; rw [unhide HLA, readH_is (unhide HRL).1, (unhide HRL).2]; rfl
      have HV1 : Hid ((readH (A.sh i1)).val = .agg #[.int .u64 ((k1 : Nat) : Int), .int .u64 ((y0 : Nat) : Int), .int .u8 0]) := by show _ = _; rw [unhide HPR, readH_is (unhide HRP).1, (unhide HRP).2]; rfl
      have HT0 : Hid (isHead (A.sh i0) = true) := by show _ = _; rw [unhide HLA]; exact (unhide HRL).1
      have HT1 : Hid (isHead (A.sh i1) = true) := by show _ = _; rw [unhide HPR]; exact (unhide HRP).1
      have HFS := hide sm2.2.2
      have HRS := hide sm.1
      have HK12 := hide (And.intro hk1 hk2)
      have hm0 : (j : Int) % 2 = ((i0 : Nat) : Int) := by omega
      have hq1 : IntKind.i64.wrap ((j : Int) + 1) = (j : Int) + 1 := by rw [IntKind.wrap_i64]; omega
      have hm1 : ((j : Int) + 1) % 2 = ((i1 : Nat) : Int) := by omega
      have hs1 : (j : Int) - 1 = ((k1 : Nat) : Int) := by omega
      have hw1 : IntKind.i64.wrap ((j : Int) - 1) = ((k1 : Nat) : Int) := by rw [IntKind.wrap_i64]; omega
      have hu1 : IntKind.u64.wrap ((k1 : Nat) : Int) = ((k1 : Nat) : Int) := by rw [IntKind.wrap_u64]; omega
      have hs2 : (j : Int) - 2 = ((k2 : Nat) : Int) := by omega
      have hw2 : IntKind.i64.wrap ((j : Int) - 2) = ((k2 : Nat) : Int) := by rw [IntKind.wrap_i64]; omega
      have m1 : (k2 : Int) < (j : Int) := by omega
      have m2 : ¬ (k2 : Int) < 0 := by omega
      clear hk1 hk2 ek1 hy1 hy0 hxk hcx hi0 hi1 h0 h1 sm sm2 hlt
      go_wp2_with fail
      refine (kbHead (unhide HK) (unhide HS).calm.live i0 (unhide HI02)).mono ?_
      rintro x W4 ⟨a4, c4, rfl, hB4, hk4⟩
      have HK4 := hide hk4
      have HB4 := hide hB4
      clear hk4 hB4 HK
      go_wp2_with fail
      refine ((unhide HO).pure.read _ _ _ (unhide HB4)).mono ?_
      rintro x W5 ⟨rfl, hb5⟩
      rw [unhide HV0, unhide HT0]
      have HK5 := hide (((unhide HK4).later hb5).new (.cells #[.int .u64 ((j : Nat) : Int), .int .u64 ((y1 : Nat) : Int), .int .u8 0] 24))
      clear hb5 HK4 HB4
      go_upto_region 16 with fail
      generalize W5.alloc (.cells #[.int .u64 ((j : Nat) : Int), .int .u64 ((y1 : Nat) : Int), .int .u8 0] 24) = W6 at *
      generalize W5.heap.size = g3 at *
      go_wp2_with fail
      refine (kbHead (unhide HK5) (unhide HS).calm.live i1 (unhide HI12)).mono ?_
      rintro x W7 ⟨a7, c7, rfl, hB7, hk7⟩
      have HK7 := hide hk7
      have HB7 := hide hB7
      clear hk7 hB7 HK5
      go_wp2_with fail
      refine ((unhide HO).pure.read _ _ _ (unhide HB7)).mono ?_
      rintro x W8 ⟨rfl, hb8⟩
      rw [unhide HV1, unhide HT1]
      have HK8 := hide (((unhide HK7).later hb8).new (.cells #[.int .u64 ((k1 : Nat) : Int), .int .u64 ((y0 : Nat) : Int), .int .u8 0] 24))
      clear hb8 HK7 HB7
      go_upto_region 17 with fail
      generalize W8.alloc (.cells #[.int .u64 ((k1 : Nat) : Int), .int .u64 ((y0 : Nat) : Int), .int .u8 0] 24) = W9 at *
      generalize W8.heap.size = g4 at *
      have a0 : W9.cell? ⟨g3, 0, none⟩ = some (.int .u64 ((j : Nat) : Int)) := (unhide HK8).cell (g := g3) (cs := #[.int .u64 ((j : Nat) : Int), .int .u64 ((y1 : Nat) : Int), .int .u8 0]) (t := 24) (by simp) 0
      have a1 : W9.cell? ⟨g3, 1, none⟩ = some (.int .u64 ((y1 : Nat) : Int)) := (unhide HK8).cell (g := g3) (cs := #[.int .u64 ((j : Nat) : Int), .int .u64 ((y1 : Nat) : Int), .int .u8 0]) (t := 24) (by simp) 1
      have a2 : W9.cell? ⟨g3, 2, none⟩ = some (.int .u8 0) := (unhide HK8).cell (g := g3) (cs := #[.int .u64 ((j : Nat) : Int), .int .u64 ((y1 : Nat) : Int), .int .u8 0]) (t := 24) (by simp) 2
      have h0 : W9.cell? ⟨g, 0, none⟩ = some (.int .u64 ((j : Nat) : Int)) := (unhide HK8).cell (g := g) (cs := #[.int .u64 ((j : Nat) : Int), .int .u64 ((y1 : Nat) : Int), .int .u8 0]) (t := 24) (by simp) 0
      have h1 : W9.cell? ⟨g, 1, none⟩ = some (.int .u64 ((y1 : Nat) : Int)) := (unhide HK8).cell (g := g) (cs := #[.int .u64 ((j : Nat) : Int), .int .u64 ((y1 : Nat) : Int), .int .u8 0]) (t := 24) (by simp) 1
      have h2 : W9.cell? ⟨g, 2, none⟩ = some (.int .u8 0) := (unhide HK8).cell (g := g) (cs := #[.int .u64 ((j : Nat) : Int), .int .u64 ((y1 : Nat) : Int), .int .u8 0]) (t := 24) (by simp) 2
      have p0 : W9.cell? ⟨g4, 0, none⟩ = some (.int .u64 ((k1 : Nat) : Int)) := (unhide HK8).cell (g := g4) (cs := #[.int .u64 ((k1 : Nat) : Int), .int .u64 ((y0 : Nat) : Int), .int .u8 0]) (t := 24) (by simp) 0
      have p1 : W9.cell? ⟨g4, 1, none⟩ = some (.int .u64 ((y0 : Nat) : Int)) := (unhide HK8).cell (g := g4) (cs := #[.int .u64 ((k1 : Nat) : Int), .int .u64 ((y0 : Nat) : Int), .int .u8 0]) (t := 24) (by simp) 1
      have p2 : W9.cell? ⟨g4, 2, none⟩ = some (.int .u8 0) := (unhide HK8).cell (g := g4) (cs := #[.int .u64 ((k1 : Nat) : Int), .int .u64 ((y0 : Nat) : Int), .int .u8 0]) (t := 24) (by simp) 2
      have hcx := ((unhide HK8).bb.cell (p := ⟨b, o + k2, none⟩) (World.block_lt_of_cell? _ _ (unhide HX k2 (by have := unhide HK12; omega)).1)).trans (unhide HX k2 (by have := unhide HK12; omega)).1
      rw [unhide HXK] at hcx
      go_cut [111] (fun v wx => v = .bool false ∧ Below W9.heap.size W9 wx)
      case first =>
        have la0 := Later.cell a0
        have la1 := Later.cell a1
        have la2 := Later.cell a2
        have lh0 := Later.cell h0
        have lh1 := Later.cell h1
        have lh2 := Later.cell h2
        have lp0 := Later.cell p0
        have lp1 := Later.cell p1
        have lp2 := Later.cell p2
        have lx := Later.cell hcx
        clear a0 a1 a2 h0 h1 h2 p0 p1 p2 hcx
        have hne : Nonempty (Later W9) := ⟨⟨W9, Below.refl _ _⟩⟩
        refine wp_region_later (by kernel_rfl) ?_
        repeat (go_big_quiet_step (fail))
        refine wpQuiet_nil ?_
        rintro _ ⟨x, rfl⟩
        have HFIN : Hid (Below W9.heap.size W9 x.1) := x.2
        generalize x.1 = W20 at *
        go_wp2_with fail
        go_meet
        exact ⟨rfl, unhide HFIN⟩
      obtain ⟨rfl, hb⟩ := hcut
      have HK10 := hide ((unhide HK8).later hb)
      clear hb HK8 a0 a1 a2 h0 h1 h2 p0 p1 p2 hcx
      generalize wc = W10 at *
      have p0 : W10.cell? ⟨g4, 0, none⟩ = some (.int .u64 ((k1 : Nat) : Int)) := (unhide HK10).cell (g := g4) (cs := #[.int .u64 ((k1 : Nat) : Int), .int .u64 ((y0 : Nat) : Int), .int .u8 0]) (t := 24) (by simp) 0
      have p1 : W10.cell? ⟨g4, 1, none⟩ = some (.int .u64 ((y0 : Nat) : Int)) := (unhide HK10).cell (g := g4) (cs := #[.int .u64 ((k1 : Nat) : Int), .int .u64 ((y0 : Nat) : Int), .int .u8 0]) (t := 24) (by simp) 1
      have p2 : W10.cell? ⟨g4, 2, none⟩ = some (.int .u8 0) := (unhide HK10).cell (g := g4) (cs := #[.int .u64 ((k1 : Nat) : Int), .int .u64 ((y0 : Nat) : Int), .int .u8 0]) (t := 24) (by simp) 2
      go_upto_region 19 with fail
      go_cut [19, 20] (fun v19 v20 wx => ∃ g5 : Nat, v19 = .int .i64 ((i0 : Nat) : Int) ∧ v20 = .pointer (some ⟨g5, 0, none⟩) ∧ (w.heap.size < g5 ∧ g < g5 ∧ g3 < g5 ∧ g4 < g5) ∧ Kb w wx [(g5, Obj.cells #[.int .u64 ((k1 : Nat) : Int), .int .u64 ((y0 : Nat) : Int), .int .u8 0] 24 (0, 0)), (g4, Obj.cells #[.int .u64 ((k1 : Nat) : Int), .int .u64 ((y0 : Nat) : Int), .int .u8 0] 24 (0, 0)), (g3, Obj.cells #[.int .u64 ((j : Nat) : Int), .int .u64 ((y1 : Nat) : Int), .int .u8 0] 24 (0, 0)), (g, Obj.cells #[.int .u64 ((j : Nat) : Int), .int .u64 ((y1 : Nat) : Int), .int .u8 0] 24 (0, 0)), (w.heap.size, Obj.cells cs 65 (0, 0))] p A)
      case first =>
        have HLT : Hid (w.heap.size < W10.heap.size ∧ g < W10.heap.size ∧ g3 < W10.heap.size ∧ g4 < W10.heap.size) :=
          ⟨(Array.getElem?_eq_some_iff.1 ((unhide HK10).ce (w.heap.size, Obj.cells cs 65 (0, 0)) (by simp))).1, (Array.getElem?_eq_some_iff.1 ((unhide HK10).ce (g, Obj.cells #[.int .u64 ((j : Nat) : Int), .int .u64 ((y1 : Nat) : Int), .int .u8 0] 24 (0, 0)) (by simp))).1, (Array.getElem?_eq_some_iff.1 ((unhide HK10).ce (g3, Obj.cells #[.int .u64 ((j : Nat) : Int), .int .u64 ((y1 : Nat) : Int), .int .u8 0] 24 (0, 0)) (by simp))).1, (Array.getElem?_eq_some_iff.1 ((unhide HK10).ce (g4, Obj.cells #[.int .u64 ((k1 : Nat) : Int), .int .u64 ((y0 : Nat) : Int), .int .u8 0] 24 (0, 0)) (by simp))).1⟩
        have pa0 : (W10.alloc (.cells #[.int .u64 0, .int .u64 0, .int .u8 0] 24)).cell? ⟨g4, 0, none⟩ = some (.int .u64 ((k1 : Nat) : Int)) := (World.cell?_alloc_lt _ _ _ (World.block_lt_of_cell? _ _ p0)).trans p0
        have pa1 : (W10.alloc (.cells #[.int .u64 0, .int .u64 0, .int .u8 0] 24)).cell? ⟨g4, 1, none⟩ = some (.int .u64 ((y0 : Nat) : Int)) := (World.cell?_alloc_lt _ _ _ (World.block_lt_of_cell? _ _ p1)).trans p1
        have pa2 : (W10.alloc (.cells #[.int .u64 0, .int .u64 0, .int .u8 0] 24)).cell? ⟨g4, 2, none⟩ = some (.int .u8 0) := (World.cell?_alloc_lt _ _ _ (World.block_lt_of_cell? _ _ p2)).trans p2
        go_region
        all_goals (
          go_wp2_with fail
          go_meet
          refine ⟨_, by first | rfl | rw [hm0], rfl, unhide HLT, ?_⟩
          first
            | exact ((unhide HK10).later (Below.refl _ _).drew).new _
            | exact ((unhide HK10).new _).later (Below.refl _ _).drew)
      obtain ⟨g5, rfl, rfl, hg5, hK⟩ := hcut
      have HG5 := hide hg5
      have HK11 := hide hK
      clear hK hg5 HK10 p0 p1 p2
      generalize wc = W11 at *
      cases which with
      | false =>
        go_upto_region 22 with fail
        have hwi : IntKind.u64.wrap ((i0 : Nat) : Int) = ((i0 : Nat) : Int) := by have := unhide HI02; rw [IntKind.wrap_u64]; omega
        go_wp2_with fail
        refine ((unhide HO).pure.read _ bs _ ((unhide HK11).bytes32 (g := w.heap.size) (t := 65) (by simp) (unhide HCS) (unhide HL))).mono ?_
        rintro x W13 ⟨rfl, hb13⟩
        obtain ⟨⟨S, E, L⟩, hR⟩ : ∃ R, readH bs = R := ⟨_, rfl⟩
        obtain ⟨X, hX⟩ : ∃ X, isHead bs = X := ⟨_, rfl⟩
        have HRV : Hid ((readH bs).val = .agg #[.int .u64 ((S : Nat) : Int), .int .u64 ((E : Nat) : Int), .int .u8 ((L : Nat) : Int)]) := by show _ = _; rw [hR]; rfl
        have HRQ : Hid ((readH bs).s = S) := by show _ = _; rw [hR]
        rw [unhide HRV, hX]
        have HXX := hide hX
        clear hR hX HRV
        have HKb := hide (((unhide HK11).later hb13).new (.cells #[.int .u64 ((S : Nat) : Int), .int .u64 ((E : Nat) : Int), .int .u8 ((L : Nat) : Int)] 24))
        clear hb13 HK11
        go_upto_region 23 with fail
        generalize W13.alloc (.cells #[.int .u64 ((S : Nat) : Int), .int .u64 ((E : Nat) : Int), .int .u8 ((L : Nat) : Int)] 24) = W14 at *
        generalize W13.heap.size = g6 at *
        have q0 : W14.cell? ⟨g6, 0, none⟩ = some (.int .u64 ((S : Nat) : Int)) := (unhide HKb).cell (g := g6) (cs := #[.int .u64 ((S : Nat) : Int), .int .u64 ((E : Nat) : Int), .int .u8 ((L : Nat) : Int)]) (t := 24) (by simp) 0
        cases X with
        | false =>
          have HNB : ¬ (isHead bs = true ∧ (readH bs).s % 2 = i0) := fun h => by rw [unhide HXX] at h; exact Bool.false_ne_true h.1
          have HSL := hide (spoilt_load (bs := bs) (unhide HS).calm (unhide HFS).1 (unhide HFS).2 (by rw [show (HeadD.mk k1 y0 0).s % 2 = i1 by show k1 % 2 = i1; have := unhide HI1; have := (unhide HK12).1; omega]; exact unhide HPR) i0 (by show i0 = (k1 + 1) % 2; rw [← (unhide HK12).1]; exact (unhide HI0).symm) HNB)
          clear HNB
          go_wp2_with fail
          refine (kbWrite (unhide HKb) i0 (unhide HI02) (g := w.heap.size) (o := Obj.cells cs 65 (0, 0)) (by simp) 0 32 bs ((unhide HKb).bytes32 (g := w.heap.size) (t := 65) (by simp) (unhide HCS) (unhide HL)) (unhide HL)).mono ?_
          rintro x W15 ⟨rfl, hk15⟩
          rw [(unhide HSL).1]
          have HKc := hide hk15
          clear hk15 HKb
          go_wp2_with fail
          refine (kbLoad (unhide HO) (unhide HKc) k1 y0 0 0 (unhide HSL).2.1 (unhide HSL).2.2).mono ?_
          rintro x W16 ⟨rfl, hk16⟩
          have HKd := hide (hk16.new (.cells #[.int .u64 ((k1 : Nat) : Int), .int .u64 ((y0 : Nat) : Int), .int .u8 0] 24))
          clear hk16 HKc
          go_upto_region 28 with fail
          generalize W16.alloc (.cells #[.int .u64 ((k1 : Nat) : Int), .int .u64 ((y0 : Nat) : Int), .int .u8 0] 24) = W17 at *
          generalize W16.heap.size = g7 at *
          have u0 : W17.cell? ⟨g7, 0, none⟩ = some (.int .u64 ((k1 : Nat) : Int)) := (unhide HKd).cell (g := g7) (cs := #[.int .u64 ((k1 : Nat) : Int), .int .u64 ((y0 : Nat) : Int), .int .u8 0]) (t := 24) (by simp) 0
          have u1 : W17.cell? ⟨g7, 1, none⟩ = some (.int .u64 ((y0 : Nat) : Int)) := (unhide HKd).cell (g := g7) (cs := #[.int .u64 ((k1 : Nat) : Int), .int .u64 ((y0 : Nat) : Int), .int .u8 0]) (t := 24) (by simp) 1
          have u2 : W17.cell? ⟨g7, 2, none⟩ = some (.int .u8 0) := (unhide HKd).cell (g := g7) (cs := #[.int .u64 ((k1 : Nat) : Int), .int .u64 ((y0 : Nat) : Int), .int .u8 0]) (t := 24) (by simp) 2
          have v0 : W17.cell? ⟨g5, 0, none⟩ = some (.int .u64 ((k1 : Nat) : Int)) := (unhide HKd).cell (g := g5) (cs := #[.int .u64 ((k1 : Nat) : Int), .int .u64 ((y0 : Nat) : Int), .int .u8 0]) (t := 24) (by simp) 0
          have v1 : W17.cell? ⟨g5, 1, none⟩ = some (.int .u64 ((y0 : Nat) : Int)) := (unhide HKd).cell (g := g5) (cs := #[.int .u64 ((k1 : Nat) : Int), .int .u64 ((y0 : Nat) : Int), .int .u8 0]) (t := 24) (by simp) 1
          have v2 : W17.cell? ⟨g5, 2, none⟩ = some (.int .u8 0) := (unhide HKd).cell (g := g5) (cs := #[.int .u64 ((k1 : Nat) : Int), .int .u64 ((y0 : Nat) : Int), .int .u8 0]) (t := 24) (by simp) 2
          go_wp2_with fail
          refine (unhide HA _).mono ?_
          rintro x W18 ⟨rfl, hb18⟩
          have HFIN : Hid (Below w.heap.size w W18) := (unhide HKd).bb.trans (hb18.mono (unhide HKd).bb.size)
          clear hb18
          go_wp2_with fail
          go_ret
          exact ⟨rfl, unhide HFIN⟩
        | true =>
          by_cases hp : S % 2 = i0
          · have hp1 : (S : Int) % 2 = ((i0 : Nat) : Int) := by omega
            have hp2 : ((S : Int) % 2 == ((i0 : Nat) : Int)) = true := beq_iff_eq.2 hp1
            clear hp
            go_wp2_with fail
            refine (unhide HA _).mono ?_
            rintro x W18 ⟨rfl, hb18⟩
            have HFIN : Hid (Below w.heap.size w W18) := (unhide HKb).bb.trans (hb18.mono (unhide HKb).bb.size)
            clear hb18
            go_wp2_with fail
            go_ret
            exact ⟨rfl, unhide HFIN⟩
          · have HNB : ¬ (isHead bs = true ∧ (readH bs).s % 2 = i0) := fun h => by rw [unhide HRQ] at h; exact hp h.2
            have hp1 : ¬ (S : Int) % 2 = ((i0 : Nat) : Int) := by omega
            have hp2 : ((S : Int) % 2 == ((i0 : Nat) : Int)) = false := beq_eq_false_iff_ne.2 hp1
            clear hp
            have HSL := hide (spoilt_load (bs := bs) (unhide HS).calm (unhide HFS).1 (unhide HFS).2 (by rw [show (HeadD.mk k1 y0 0).s % 2 = i1 by show k1 % 2 = i1; have := unhide HI1; have := (unhide HK12).1; omega]; exact unhide HPR) i0 (by show i0 = (k1 + 1) % 2; rw [← (unhide HK12).1]; exact (unhide HI0).symm) HNB)
            clear HNB
            go_wp2_with fail
            refine (kbWrite (unhide HKb) i0 (unhide HI02) (g := w.heap.size) (o := Obj.cells cs 65 (0, 0)) (by simp) 0 32 bs ((unhide HKb).bytes32 (g := w.heap.size) (t := 65) (by simp) (unhide HCS) (unhide HL)) (unhide HL)).mono ?_
            rintro x W15 ⟨rfl, hk15⟩
            rw [(unhide HSL).1]
            have HKc := hide hk15
            clear hk15 HKb
            go_wp2_with fail
            refine (kbLoad (unhide HO) (unhide HKc) k1 y0 0 0 (unhide HSL).2.1 (unhide HSL).2.2).mono ?_
            rintro x W16 ⟨rfl, hk16⟩
            have HKd := hide (hk16.new (.cells #[.int .u64 ((k1 : Nat) : Int), .int .u64 ((y0 : Nat) : Int), .int .u8 0] 24))
            clear hk16 HKc
            go_upto_region 28 with fail
            generalize W16.alloc (.cells #[.int .u64 ((k1 : Nat) : Int), .int .u64 ((y0 : Nat) : Int), .int .u8 0] 24) = W17 at *
            generalize W16.heap.size = g7 at *
            have u0 : W17.cell? ⟨g7, 0, none⟩ = some (.int .u64 ((k1 : Nat) : Int)) := (unhide HKd).cell (g := g7) (cs := #[.int .u64 ((k1 : Nat) : Int), .int .u64 ((y0 : Nat) : Int), .int .u8 0]) (t := 24) (by simp) 0
            have u1 : W17.cell? ⟨g7, 1, none⟩ = some (.int .u64 ((y0 : Nat) : Int)) := (unhide HKd).cell (g := g7) (cs := #[.int .u64 ((k1 : Nat) : Int), .int .u64 ((y0 : Nat) : Int), .int .u8 0]) (t := 24) (by simp) 1
            have u2 : W17.cell? ⟨g7, 2, none⟩ = some (.int .u8 0) := (unhide HKd).cell (g := g7) (cs := #[.int .u64 ((k1 : Nat) : Int), .int .u64 ((y0 : Nat) : Int), .int .u8 0]) (t := 24) (by simp) 2
            have v0 : W17.cell? ⟨g5, 0, none⟩ = some (.int .u64 ((k1 : Nat) : Int)) := (unhide HKd).cell (g := g5) (cs := #[.int .u64 ((k1 : Nat) : Int), .int .u64 ((y0 : Nat) : Int), .int .u8 0]) (t := 24) (by simp) 0
            have v1 : W17.cell? ⟨g5, 1, none⟩ = some (.int .u64 ((y0 : Nat) : Int)) := (unhide HKd).cell (g := g5) (cs := #[.int .u64 ((k1 : Nat) : Int), .int .u64 ((y0 : Nat) : Int), .int .u8 0]) (t := 24) (by simp) 1
            have v2 : W17.cell? ⟨g5, 2, none⟩ = some (.int .u8 0) := (unhide HKd).cell (g := g5) (cs := #[.int .u64 ((k1 : Nat) : Int), .int .u64 ((y0 : Nat) : Int), .int .u8 0]) (t := 24) (by simp) 2
            go_wp2_with fail
            refine (unhide HA _).mono ?_
            rintro x W18 ⟨rfl, hb18⟩
            have HFIN : Hid (Below w.heap.size w W18) := (unhide HKd).bb.trans (hb18.mono (unhide HKd).bb.size)
            clear hb18
            go_wp2_with fail
            go_ret
            exact ⟨rfl, unhide HFIN⟩
      | true =>
        go_upto_region 21 with fail
        have a0 : W11.cell? ⟨g3, 0, none⟩ = some (.int .u64 ((j : Nat) : Int)) := (unhide HK11).cell (g := g3) (cs := #[.int .u64 ((j : Nat) : Int), .int .u64 ((y1 : Nat) : Int), .int .u8 0]) (t := 24) (by simp) 0
        have a1 : W11.cell? ⟨g3, 1, none⟩ = some (.int .u64 ((y1 : Nat) : Int)) := (unhide HK11).cell (g := g3) (cs := #[.int .u64 ((j : Nat) : Int), .int .u64 ((y1 : Nat) : Int), .int .u8 0]) (t := 24) (by simp) 1
        have a2 : W11.cell? ⟨g3, 2, none⟩ = some (.int .u8 0) := (unhide HK11).cell (g := g3) (cs := #[.int .u64 ((j : Nat) : Int), .int .u64 ((y1 : Nat) : Int), .int .u8 0]) (t := 24) (by simp) 2
        have p0 : W11.cell? ⟨g5, 0, none⟩ = some (.int .u64 ((k1 : Nat) : Int)) := (unhide HK11).cell (g := g5) (cs := #[.int .u64 ((k1 : Nat) : Int), .int .u64 ((y0 : Nat) : Int), .int .u8 0]) (t := 24) (by simp) 0
        have p1 : W11.cell? ⟨g5, 1, none⟩ = some (.int .u64 ((y0 : Nat) : Int)) := (unhide HK11).cell (g := g5) (cs := #[.int .u64 ((k1 : Nat) : Int), .int .u64 ((y0 : Nat) : Int), .int .u8 0]) (t := 24) (by simp) 1
        have p2 : W11.cell? ⟨g5, 2, none⟩ = some (.int .u8 0) := (unhide HK11).cell (g := g5) (cs := #[.int .u64 ((k1 : Nat) : Int), .int .u64 ((y0 : Nat) : Int), .int .u8 0]) (t := 24) (by simp) 2
        have pf0 := (unhide HK11).frozen (g := g5) (cs := #[.int .u64 ((k1 : Nat) : Int), .int .u64 ((y0 : Nat) : Int), .int .u8 0]) (t := 24) (by simp) 0
        have pf1 := (unhide HK11).frozen (g := g5) (cs := #[.int .u64 ((k1 : Nat) : Int), .int .u64 ((y0 : Nat) : Int), .int .u8 0]) (t := 24) (by simp) 1
        have pf2 := (unhide HK11).frozen (g := g5) (cs := #[.int .u64 ((k1 : Nat) : Int), .int .u64 ((y0 : Nat) : Int), .int .u8 0]) (t := 24) (by simp) 2
        go_cut [19] (fun v19 wx => v19 = .int .i64 ((i1 : Nat) : Int) ∧ Kb w wx [(g5, Obj.cells #[.int .u64 ((j : Nat) : Int), .int .u64 ((y1 : Nat) : Int), .int .u8 0] 24 (0, 0)), (g4, Obj.cells #[.int .u64 ((k1 : Nat) : Int), .int .u64 ((y0 : Nat) : Int), .int .u8 0] 24 (0, 0)), (g3, Obj.cells #[.int .u64 ((j : Nat) : Int), .int .u64 ((y1 : Nat) : Int), .int .u8 0] 24 (0, 0)), (g, Obj.cells #[.int .u64 ((j : Nat) : Int), .int .u64 ((y1 : Nat) : Int), .int .u8 0] 24 (0, 0)), (w.heap.size, Obj.cells cs 65 (0, 0))] p A)
        case first =>
          have HKS := hide ((unhide HK11).set3 (by have := unhide HG5; omega) (by have := unhide HG5; intro q hq; simp only [List.mem_cons, List.not_mem_nil, or_false] at hq; rcases hq with rfl | rfl | rfl | rfl <;> simp only <;> omega) (.int .u64 ((j : Nat) : Int)) (.int .u64 ((y1 : Nat) : Int)) (.int .u8 0))
          go_region
          all_goals (
            go_wp2_with fail
            go_meet
            refine ⟨by first | rfl | rw [hm1], ?_⟩
            first
              | exact unhide HKS
              | exact (unhide HKS).later (Below.refl _ _).drew)
        obtain ⟨rfl, hK⟩ := hcut
        have HK12x := hide hK
        clear hK HK11 a0 a1 a2 p0 p1 p2 pf0 pf1 pf2
        generalize wc = W12 at *
        have hwi : IntKind.u64.wrap ((i1 : Nat) : Int) = ((i1 : Nat) : Int) := by have := unhide HI12; rw [IntKind.wrap_u64]; omega
        go_wp2_with fail
        refine ((unhide HO).pure.read _ bs _ ((unhide HK12x).bytes32 (g := w.heap.size) (t := 65) (by simp) (unhide HCS) (unhide HL))).mono ?_
        rintro x W13 ⟨rfl, hb13⟩
        obtain ⟨⟨S, E, L⟩, hR⟩ : ∃ R, readH bs = R := ⟨_, rfl⟩
        obtain ⟨X, hX⟩ : ∃ X, isHead bs = X := ⟨_, rfl⟩
        have HRV : Hid ((readH bs).val = .agg #[.int .u64 ((S : Nat) : Int), .int .u64 ((E : Nat) : Int), .int .u8 ((L : Nat) : Int)]) := by show _ = _; rw [hR]; rfl
        have HRQ : Hid ((readH bs).s = S) := by show _ = _; rw [hR]
        rw [unhide HRV, hX]
        have HXX := hide hX
        clear hR hX HRV
        have HKb := hide (((unhide HK12x).later hb13).new (.cells #[.int .u64 ((S : Nat) : Int), .int .u64 ((E : Nat) : Int), .int .u8 ((L : Nat) : Int)] 24))
        clear hb13 HK12x
        go_upto_region 23 with fail
        generalize W13.alloc (.cells #[.int .u64 ((S : Nat) : Int), .int .u64 ((E : Nat) : Int), .int .u8 ((L : Nat) : Int)] 24) = W14 at *
        generalize W13.heap.size = g6 at *
        have q0 : W14.cell? ⟨g6, 0, none⟩ = some (.int .u64 ((S : Nat) : Int)) := (unhide HKb).cell (g := g6) (cs := #[.int .u64 ((S : Nat) : Int), .int .u64 ((E : Nat) : Int), .int .u8 ((L : Nat) : Int)]) (t := 24) (by simp) 0
        cases X with
        | false =>
          have HNB : ¬ (isHead bs = true ∧ (readH bs).s % 2 = i1) := fun h => by rw [unhide HXX] at h; exact Bool.false_ne_true h.1
          have HSL := hide (spoilt_load (bs := bs) (unhide HS).calm (unhide HS).fits (unhide HRS) (by rw [show (HeadD.mk j y1 0).s % 2 = i0 from unhide HI0]; exact unhide HLA) i1 (by rw [show ((HeadD.mk j y1 0).s + 1) % 2 = i1 from unhide HI1]) HNB)
          clear HNB
          go_wp2_with fail
          refine (kbWrite (unhide HKb) i1 (unhide HI12) (g := w.heap.size) (o := Obj.cells cs 65 (0, 0)) (by simp) 0 32 bs ((unhide HKb).bytes32 (g := w.heap.size) (t := 65) (by simp) (unhide HCS) (unhide HL)) (unhide HL)).mono ?_
          rintro x W15 ⟨rfl, hk15⟩
          rw [(unhide HSL).1]
          have HKc := hide hk15
          clear hk15 HKb
          go_wp2_with fail
          refine (kbLoad (unhide HO) (unhide HKc) j y1 0 0 (unhide HSL).2.1 (unhide HSL).2.2).mono ?_
          rintro x W16 ⟨rfl, hk16⟩
          have HKd := hide (hk16.new (.cells #[.int .u64 ((j : Nat) : Int), .int .u64 ((y1 : Nat) : Int), .int .u8 0] 24))
          clear hk16 HKc
          go_upto_region 28 with fail
          generalize W16.alloc (.cells #[.int .u64 ((j : Nat) : Int), .int .u64 ((y1 : Nat) : Int), .int .u8 0] 24) = W17 at *
          generalize W16.heap.size = g7 at *
          have u0 : W17.cell? ⟨g7, 0, none⟩ = some (.int .u64 ((j : Nat) : Int)) := (unhide HKd).cell (g := g7) (cs := #[.int .u64 ((j : Nat) : Int), .int .u64 ((y1 : Nat) : Int), .int .u8 0]) (t := 24) (by simp) 0
          have u1 : W17.cell? ⟨g7, 1, none⟩ = some (.int .u64 ((y1 : Nat) : Int)) := (unhide HKd).cell (g := g7) (cs := #[.int .u64 ((j : Nat) : Int), .int .u64 ((y1 : Nat) : Int), .int .u8 0]) (t := 24) (by simp) 1
          have u2 : W17.cell? ⟨g7, 2, none⟩ = some (.int .u8 0) := (unhide HKd).cell (g := g7) (cs := #[.int .u64 ((j : Nat) : Int), .int .u64 ((y1 : Nat) : Int), .int .u8 0]) (t := 24) (by simp) 2
          have v0 : W17.cell? ⟨g5, 0, none⟩ = some (.int .u64 ((j : Nat) : Int)) := (unhide HKd).cell (g := g5) (cs := #[.int .u64 ((j : Nat) : Int), .int .u64 ((y1 : Nat) : Int), .int .u8 0]) (t := 24) (by simp) 0
          have v1 : W17.cell? ⟨g5, 1, none⟩ = some (.int .u64 ((y1 : Nat) : Int)) := (unhide HKd).cell (g := g5) (cs := #[.int .u64 ((j : Nat) : Int), .int .u64 ((y1 : Nat) : Int), .int .u8 0]) (t := 24) (by simp) 1
          have v2 : W17.cell? ⟨g5, 2, none⟩ = some (.int .u8 0) := (unhide HKd).cell (g := g5) (cs := #[.int .u64 ((j : Nat) : Int), .int .u64 ((y1 : Nat) : Int), .int .u8 0]) (t := 24) (by simp) 2
          go_wp2_with fail
          refine (unhide HA _).mono ?_
          rintro x W18 ⟨rfl, hb18⟩
          have HFIN : Hid (Below w.heap.size w W18) := (unhide HKd).bb.trans (hb18.mono (unhide HKd).bb.size)
          clear hb18
          go_wp2_with fail
          go_ret
          exact ⟨rfl, unhide HFIN⟩
        | true =>
          by_cases hp : S % 2 = i1
          · have hp1 : (S : Int) % 2 = ((i1 : Nat) : Int) := by omega
            have hp2 : ((S : Int) % 2 == ((i1 : Nat) : Int)) = true := beq_iff_eq.2 hp1
            clear hp
            go_wp2_with fail
            refine (unhide HA _).mono ?_
            rintro x W18 ⟨rfl, hb18⟩
            have HFIN : Hid (Below w.heap.size w W18) := (unhide HKb).bb.trans (hb18.mono (unhide HKb).bb.size)
            clear hb18
            go_wp2_with fail
            go_ret
            exact ⟨rfl, unhide HFIN⟩
          · have HNB : ¬ (isHead bs = true ∧ (readH bs).s % 2 = i1) := fun h => by rw [unhide HRQ] at h; exact hp h.2
            have hp1 : ¬ (S : Int) % 2 = ((i1 : Nat) : Int) := by omega
            have hp2 : ((S : Int) % 2 == ((i1 : Nat) : Int)) = false := beq_eq_false_iff_ne.2 hp1
            clear hp
            have HSL := hide (spoilt_load (bs := bs) (unhide HS).calm (unhide HS).fits (unhide HRS) (by rw [show (HeadD.mk j y1 0).s % 2 = i0 from unhide HI0]; exact unhide HLA) i1 (by rw [show ((HeadD.mk j y1 0).s + 1) % 2 = i1 from unhide HI1]) HNB)
            clear HNB
            go_wp2_with fail
            refine (kbWrite (unhide HKb) i1 (unhide HI12) (g := w.heap.size) (o := Obj.cells cs 65 (0, 0)) (by simp) 0 32 bs ((unhide HKb).bytes32 (g := w.heap.size) (t := 65) (by simp) (unhide HCS) (unhide HL)) (unhide HL)).mono ?_
            rintro x W15 ⟨rfl, hk15⟩
            rw [(unhide HSL).1]
            have HKc := hide hk15
            clear hk15 HKb
            go_wp2_with fail
            refine (kbLoad (unhide HO) (unhide HKc) j y1 0 0 (unhide HSL).2.1 (unhide HSL).2.2).mono ?_
            rintro x W16 ⟨rfl, hk16⟩
            have HKd := hide (hk16.new (.cells #[.int .u64 ((j : Nat) : Int), .int .u64 ((y1 : Nat) : Int), .int .u8 0] 24))
            clear hk16 HKc
            go_upto_region 28 with fail
            generalize W16.alloc (.cells #[.int .u64 ((j : Nat) : Int), .int .u64 ((y1 : Nat) : Int), .int .u8 0] 24) = W17 at *
            generalize W16.heap.size = g7 at *
            have u0 : W17.cell? ⟨g7, 0, none⟩ = some (.int .u64 ((j : Nat) : Int)) := (unhide HKd).cell (g := g7) (cs := #[.int .u64 ((j : Nat) : Int), .int .u64 ((y1 : Nat) : Int), .int .u8 0]) (t := 24) (by simp) 0
            have u1 : W17.cell? ⟨g7, 1, none⟩ = some (.int .u64 ((y1 : Nat) : Int)) := (unhide HKd).cell (g := g7) (cs := #[.int .u64 ((j : Nat) : Int), .int .u64 ((y1 : Nat) : Int), .int .u8 0]) (t := 24) (by simp) 1
            have u2 : W17.cell? ⟨g7, 2, none⟩ = some (.int .u8 0) := (unhide HKd).cell (g := g7) (cs := #[.int .u64 ((j : Nat) : Int), .int .u64 ((y1 : Nat) : Int), .int .u8 0]) (t := 24) (by simp) 2
            have v0 : W17.cell? ⟨g5, 0, none⟩ = some (.int .u64 ((j : Nat) : Int)) := (unhide HKd).cell (g := g5) (cs := #[.int .u64 ((j : Nat) : Int), .int .u64 ((y1 : Nat) : Int), .int .u8 0]) (t := 24) (by simp) 0
            have v1 : W17.cell? ⟨g5, 1, none⟩ = some (.int .u64 ((y1 : Nat) : Int)) := (unhide HKd).cell (g := g5) (cs := #[.int .u64 ((j : Nat) : Int), .int .u64 ((y1 : Nat) : Int), .int .u8 0]) (t := 24) (by simp) 1
            have v2 : W17.cell? ⟨g5, 2, none⟩ = some (.int .u8 0) := (unhide HKd).cell (g := g5) (cs := #[.int .u64 ((j : Nat) : Int), .int .u64 ((y1 : Nat) : Int), .int .u8 0]) (t := 24) (by simp) 2
            go_wp2_with fail
            refine (unhide HA _).mono ?_
            rintro x W18 ⟨rfl, hb18⟩
            have HFIN : Hid (Below w.heap.size w W18) := (unhide HKd).bb.trans (hb18.mono (unhide HKd).bb.size)
            clear hb18
            go_wp2_with fail
            go_ret
            exact ⟨rfl, unhide HFIN⟩

theorem headTurns_any (ho : HeadOk) (ha : HeadAwake) (a : Option Addr) (n c : Nat) (xs : Nat → Nat) (which : Bool) (bs : List UInt8) (w : World) (hx : U64s w a n xs) (hl : bs.length = 32) :
    Calls Try.prog 7 #[.slice a n c, .bool which, .agg (bs.map bv).toArray] w fun x w' => x = .returned (.bool true) ∧ Below w.heap.size w w' := by
  by_cases h : n < 2 ∨ 30 < n
  · exact headTurns_out ho ha a n c which _ w h
  · obtain ⟨b, o, rfl, h2⟩ := hx (by omega)
    exact headTurns_in ho ha b o n c xs which bs w h2 hl (by omega) (by omega)
end Go.Proofs.Ytoabpjdpdcpdlaa
