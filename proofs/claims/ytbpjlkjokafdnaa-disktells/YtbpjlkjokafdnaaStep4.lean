/- One op with both disks: the law's function 'step', of the kind 4. No statement of the seat is proved here. -/
import Derived.Test.YtbpjlkjokafdnaaTwin8
namespace Go.Proofs.Ytbpjlkjokafdnaa
open Go.RowKit

set_option maxRecDepth 100000 in
set_option maxHeartbeats 8000000 in
theorem step_4 {w0 w : World} {p q : Nat} {cs : Array Value} {A : AD} (h : TW w0 p q (fun _ => False) cs A A w) (wh sg nn k0 k1 k2 k3 : Int) (a : Option Addr) (n c : Nat) (bs : List UInt8) (hu : Bytes w0 (.slice a n c) bs) (hwh : 0 ≤ wh ∧ wh < 256) (hnn : nn ≤ 9223372036854775807) (ht : wh % 8 = 4) :
    Calls Try.prog 12 #[.pointer (some ⟨p, 0, none⟩), .pointer (some ⟨q, 0, none⟩), .agg #[.int .u8 wh, .int .i64 sg, .int .i64 nn, .slice a n c, .int .i64 k0, .int .i64 k1, .int .i64 k2, .int .i64 k3]] w fun e w' => e = .returned (.bool true) ∧ ∃ A' cs', TW w0 p q (fun _ => False) cs' A' A' w' := by
  have HT := hide h
  have HU := hide hu
  have HNN := hide hnn
  obtain ⟨g, hg⟩ : ∃ g, g = w.heap.size := ⟨_, rfl⟩
  have HG := hide hg
  have HTT := hide ht
  clear h hu hg hnn ht
  go_enter Try.func12, Try.ntmps12
  go_wp2_with fail
  have hb1 : Below w.heap.size w (w.alloc (.cells #[.int .u8 wh, .int .i64 sg, .int .i64 nn, .slice a n c, .int .i64 k0, .int .i64 k1, .int .i64 k2, .int .i64 k3] 37)) := (Below.refl _ w).alloc (Nat.le_refl _) _
  have hx1 : (w.alloc (.cells #[.int .u8 wh, .int .i64 sg, .int .i64 nn, .slice a n c, .int .i64 k0, .int .i64 k1, .int .i64 k2, .int .i64 k3] 37)).heap[g]? = some (.cells #[.int .u8 wh, .int .i64 sg, .int .i64 nn, .slice a n c, .int .i64 k0, .int .i64 k1, .int .i64 k2, .int .i64 k3] 37 (0, 0)) := by rw [unhide HG]; exact heap_alloc_new w _
  have hs1 : (w.alloc (.cells #[.int .u8 wh, .int .i64 sg, .int .i64 nn, .slice a n c, .int .i64 k0, .int .i64 k1, .int .i64 k2, .int .i64 k3] 37)).heap.size = w.heap.size + 1 := by simp
  rw [← unhide HG]
  generalize w.alloc _ = w1 at *
  have hU1 : Bytes w1 (.slice a n c) bs := (unhide HU).kept fun k _ hk => by rw [hb1.block k (by have := (unhide HT).below.size; omega), (unhide HT).below.block k hk]
  refine (bytes_any wh sg nn k0 k1 k2 k3 a n c bs w1 hU1).mono ?_
  rintro e w2 ⟨r, rfl, hF⟩
  obtain ⟨bt, hbt⟩ : ∃ bt, bt = bs.take 40 := ⟨_, rfl⟩
  rw [← hbt] at hF
  have hR : SR w0 p q g #[.int .u8 wh, .int .i64 sg, .int .i64 nn, .slice a n c, .int .i64 k0, .int .i64 k1, .int .i64 k2, .int .i64 k3] r bt cs A A w2 := by
    have hb2 := hF.1.2.2
    have hbb : Below w.heap.size w w2 := hb1.trans (hb2.mono (by omega))
    refine ⟨(unhide HT).grow hbb _ fun b hb => .inr ?_, row_later hx1 hb2, hF.2, fun e => by have := (hF.1.2.1 g e).1; have := unhide HG; omega⟩
    have := hb2.size
    have := unhide HG
    rcases hb with rfl | hb
    · omega
    · have := hF.1.2.1 b hb; omega
  obtain ⟨ra, rc, hr, hrc⟩ := hF.1.1.form
  obtain ⟨m, hm⟩ : ∃ m, m = bt.length := ⟨_, rfl⟩
  have hm40 : m ≤ 40 := by rw [hm, hbt, List.length_take]; omega
  rw [← hm] at hr hrc
  subst hr
  have HBT : Hid (bs.take 40 = bt) := hbt.symm
  obtain ⟨v0, v1, v2, v3, v4, v5, v6, v7, v8, v9, v10, v11, v12, rfl⟩ := arr13 hR.tw.size
  have HR := hide hR
  have HMM := hide hm
  have HUW : Hid (∀ W : World, Below w0.heap.size w0 W → Bytes W (.slice a n c) bs) := fun W hW => (unhide HU).kept fun k _ hk => hW.block k hk
  clear hF hb1 hx1 hs1 hR hU1 hm hbt HT HU HG hrc
  obtain ⟨y0, y1, y2, y3, y4, y5, y6, y7⟩ := (unhide HR).cells
  go_upto_region 6 with fail
  rw [unhide HTT]
  clear HTT hwh
  obtain ⟨A', err, hm, hd⟩ := B_write A (unhide HR).tw.ok sg bt
  have HM := hide hm
  have HD := hide hd
  clear hm hd
  obtain ⟨j0, j1, j2, j3, j4, j5, j6, j7, j8, j9, j10, j11, j12⟩ := row13 (unhide HR).tw.row
  go_upto_region 17 with fail
  go_cut [8] (fun s wx => s = .int .i64 err ∧ ∃ cs2, SR w0 p q g #[.int .u8 wh, .int .i64 sg, .int .i64 nn, .slice a n c, .int .i64 k0, .int .i64 k1, .int .i64 k2, .int .i64 k3] (.slice ra m rc) bt cs2 A A' wx)
  case first =>
    go_region_with (first
      | (go_at_call 29; refine (bytes_any wh sg nn k0 k1 k2 k3 a n c bs _ (by exact unhide HUW _ (unhide HR).drew.tw.below)).mono ?_; rintro e w3 ⟨r3, rfl, hF3⟩; rw [unhide HBT] at hF3; obtain ⟨r3a, r3c, hr3, _⟩ := hF3.1.1.form; rw [← unhide HMM] at hr3; subst hr3; have HB3 := hide hF3.1.1; have HR3 := hide ((unhide HR).drew.later hF3.1.2.2); clear hF3; obtain ⟨i0, i1, i2, i3, i4, i5, i6, i7, i8, i9, i10, i11, i12⟩ := row13 (unhide HR3).tw.row; obtain ⟨z0, z1, z2, z3, z4, z5, z6, z7⟩ := (unhide HR3).cells)
      | (go_at_call 33; refine ((unhide HR3).tw.refB (unhide HM) r3a m r3c (unhide HB3)).mono ?_; rintro e w4 ⟨cs2, rfl, hsz, hst, htw, her, her2⟩; have HR4 := hide ((unhide HR3).move htw her); clear htw her her2))
    all_goals (
      go_wp2_with fail
      go_meet
      exact ⟨rfl, cs2, unhide HR4⟩)
  obtain ⟨rfl, cs2, hR8⟩ := hcut
  have HR8 := hide hR8
  clear hR8
  clear y0 y1 y2 y3 y4 y5 y6 y7 HR j0 j1 j2 j3 j4 j5 j6 j7 j8 j9 j10 j11 j12
  obtain ⟨y0, y1, y2, y3, y4, y5, y6, y7⟩ := (unhide HR8).cells
  go_wp2_with fail
  refine ((unhide HR8).tw.dskB (unhide HD) ra m rc (unhide HR8).bytes (fun _ k hk => .inr hk)).mono ?_
  rintro e w9 ⟨rfl, htw, her⟩
  have HR9 := hide ((unhide HR8).move htw her)
  clear htw her HR8 HM HD y0 y1 y2 y3 y4 y5 y6 y7
  go_wp2_with fail
  go_loopw [140] (fun i W => ∃ (k : Nat) (b2 : List UInt8), k ≤ m ∧ i = .int .i64 k ∧ b2.length = m ∧ SR w0 p q g #[.int .u8 wh, .int .i64 sg, .int .i64 nn, .slice a n c, .int .i64 k0, .int .i64 k1, .int .i64 k2, .int .i64 k3] (.slice ra m rc) b2 cs2 A' A' W) (fun i _ => m - (intOf i).toNat)
  case atStart => exact ⟨0, bt, Nat.zero_le _, rfl, (unhide HMM).symm, unhide HR9⟩
  case round =>
    obtain ⟨k, b2, hk, rfl, hbl, hR⟩ := hrel
    clear HR9 HMM HBT HUW
    by_cases hlt : k < m
    · obtain ⟨b, x, hra, hx0, hx1, hc, hf, hs⟩ := own_at hR.own hbl hlt
      subst hra
      have hk1 : (k : Int) < (m : Int) := by omega
      have HS : Hid (∀ y : Int, 0 ≤ y → y < 256 → SR w0 p q g #[.int .u8 wh, .int .i64 sg, .int .i64 nn, .slice a n c, .int .i64 k0, .int .i64 k1, .int .i64 k2, .int .i64 k3] (.slice (some ⟨b, 0, none⟩) m rc) (b2.set k (UInt8.ofNat y.toNat)) cs2 A' A' (wr.setCell ⟨b, k, none⟩ (.int .u8 y))) := fun y h0 h1 =>
        ⟨hR.tw.scratch (.inr rfl) _ k, (Below.heap_setCell wr ⟨b, k, none⟩ (.int .u8 y) g (fun e => hR.apart (congrArg some (Eq.symm e)))).trans hR.box, hs y h0 h1, hR.apart⟩
      have HBL := hide hbl
      clear hR hs hbl
      go_wp2_with fail
      exact ⟨⟨k + 1, _, by omega, by go_num, by rw [List.length_set]; exact unhide HBL, unhide HS _ (by omega) (by omega)⟩, by simp [intOf]; omega⟩
    · have HR9 := hide hR
      clear hR
      go_wp2_with fail
      go_ret
      exact ⟨rfl, A', cs2, (unhide HR9).tw.fewer _ (fun _ h => h.elim)⟩
end Go.Proofs.Ytbpjlkjokafdnaa
