/- OpHas of foremanlaw10: its walk. No statement of the seat is proved here. -/
import Derived.Test.YtdlbpbglidhlfaaDoorBase13
namespace Go.Proofs.YtdlbpbglidhlfaaDoor
open Go.RowKit

theorem mask_of : ∀ M : Fin 32, ∃ f0 f1 f2 f3 f4 : Bool, M.val = OD.bits f0 f1 f2 f3 f4 := by decide +kernel
theorem mask_facts : ∀ f0 f1 f2 f3 f4 : Bool,
    (bits .and .i64 ((OD.bits f0 f1 f2 f3 f4 : Nat) : Int) 1 != 0) = f0 ∧ (bits .and .i64 ((OD.bits f0 f1 f2 f3 f4 : Nat) : Int) 2 != 0) = f1 ∧ (bits .and .i64 ((OD.bits f0 f1 f2 f3 f4 : Nat) : Int) 4 != 0) = f2 ∧ (bits .and .i64 ((OD.bits f0 f1 f2 f3 f4 : Nat) : Int) 8 != 0) = f3 ∧ (bits .and .i64 ((OD.bits f0 f1 f2 f3 f4 : Nat) : Int) 16 != 0) = f4 ∧
    (bits .andNot .i64 ((OD.bits f0 f1 f2 f3 f4 : Nat) : Int) 3 == 0) = (!f2 && !f3 && !f4) ∧ (((OD.bits f0 f1 f2 f3 f4 : Nat) : Int) == 4) = (f2 && !f3 && !f4 && !f0 && !f1) ∧ (bits .and .i64 ((OD.bits f0 f1 f2 f3 f4 : Nat) : Int) 12 == 12) = (f2 && f3) ∧ (bits .and .i64 ((OD.bits f0 f1 f2 f3 f4 : Nat) : Int) 2 == 0) = (!f1) ∧ (((OD.bits f0 f1 f2 f3 f4 : Nat) : Int) == 12) = (f2 && f3 && !f4 && !f0 && !f1) := by decide +kernel
/-- What is asked of an operation that has these parts. -/
def maskO (N : Nat) (s : List UInt8) (t : Int) (v : VD) (l : List FI) (q : Int) (f0 f1 f2 f3 f4 : Bool) : OD := ⟨N, if f2 then s else [], if f3 then t else 0, if f4 then v else zeroD, if f0 then l else [], if f1 then q else 0⟩
theorem mask_right {N : Nat} {s : List UInt8} {t : Int} {v : VD} {l : List FI} {q : Int} {f0 f1 f2 f3 f4 : Bool} (hs : idB s = true) (ht : 1 ≤ t) (hv : v.right = true) (hl : rightF l = true) (hq : 1 ≤ q ∧ q ≤ 400) (hz : v.same zeroD = false) (hn : l ≠ []) :
    (maskO N s t v l q f0 f1 f2 f3 f4).right = OD.form N f2 f3 true true true f2 f3 f4 f0 f1 := by
  have h0 : idB [] = false := by decide
  have hse : s.isEmpty = false := by cases s with | nil => rw [h0] at hs; cases hs | cons _ _ => rfl
  have hle : l.isEmpty = false := by cases l with | nil => exact absurd rfl hn | cons _ _ => rfl
  have hzz : zeroD.same zeroD = true := (VD.same_iff _ _).2 rfl
  have hr0 : rightF [] = true := by decide
  have q0 : (decide ((0 : Int) ≤ q) && decide (q ≤ 400)) = true := by rw [decide_eq_true (show (0 : Int) ≤ q by omega), decide_eq_true hq.2]; rfl
  have q1 : decide (q ≠ 0) = true := decide_eq_true (by omega)
  have t0 : decide (1 ≤ t) = true := decide_eq_true ht
  have t1 : decide (t ≠ 0) = true := decide_eq_true (by omega)
  unfold OD.right OD.isZ maskO
  cases f0 <;> cases f1 <;> cases f2 <;> cases f3 <;> cases f4 <;> simp only [if_true, if_false, Bool.false_eq_true, h0, hs, hse, hle, hzz, hz, hr0, hl, hv, q0, q1, t0, t1, zeroD_right, List.isEmpty_nil, Bool.not_true, Bool.not_false] <;> first | rfl | (simp; done)
theorem mask_lt {N : Nat} {s : List UInt8} {t : Int} {v : VD} {l : List FI} {q : Int} {f0 f1 f2 f3 f4 : Bool} (h : v.parts ≤ 1000000 ∧ v.deep ≤ 1000) : (maskO N s t v l q f0 f1 f2 f3 f4).Lt := by
  unfold OD.Lt maskO
  cases f4
  · show zeroD.parts ≤ 1000000 ∧ zeroD.deep ≤ 1000
    decide
  · exact h

set_option maxRecDepth 100000 in
set_option maxHeartbeats 16000000 in
theorem hasLaw_any (s : List UInt8) (t : Int) (v : VD) (u : Value) (l : List FI) (a3 : Option Addr) (n3 c3 : Nat) (q : Int) (w : World) (hs : s.length ≤ maxLen) (ht : InR t) (hV : v.At (fun _ => True) w u) (hL : FragAt (fun _ => True) w l (.slice a3 n3 c3)) (hq : InR q) (hT : OTab w) :
    Calls Tryd.prog 5 #[.string ⟨s.toArray⟩, .int .i64 t, u, .slice a3 n3 c3, .int .i64 q] w fun e w' => e = .returned (.bool true) ∧ Below w.heap.size w w' := by
  obtain ⟨K, vm, vc, VN, vz, va, rfl⟩ := hV.form
  have HAX : Hid (∀ X, Below w.heap.size w X → v.At (fun _ => True) X (.agg #[.int .u8 ((K : Nat) : Int), .int .i64 VN, .string vz, .slice va vm vc]) ∧ FragAt (fun _ => True) X l (.slice a3 n3 c3) ∧ OTab X) := fun X hX => ⟨hV.later hX, hL.later hX, hT.later hX⟩
  have HAW : Hid (∀ W, Below w.heap.size w W → Calls Tryd.prog 8 #[] W fun e w' => e = .returned (.bool true) ∧ Below w.heap.size w w') := fun W hW => (oAwake_any W (hT.later hW)).mono fun e w' ⟨h1, h2⟩ => ⟨h1, hW.trans (h2.mono hW.size)⟩
  have HNL : Hid (n3 = l.length) := by obtain ⟨_, _, e, _⟩ := hL; cases e; rfl
  obtain ⟨z, hz⟩ : ∃ z : ByteArray, z = ⟨s.toArray⟩ := ⟨_, rfl⟩
  have HZ := hide hz
  have HID : Hid (∀ W, Calls Tryd.prog 14 #[.string z] W fun e w' => e = .returned (.bool (idB s)) ∧ w' = W) := fun W => by rw [hz]; exact oID_any s W
  obtain ⟨W1, hW1⟩ : ∃ W1, W1 = w.alloc (.cells #[.int .u8 ((K : Nat) : Int), .int .i64 VN, .string vz, .slice va vm vc] 24) := ⟨_, rfl⟩
  obtain ⟨W2, hW2⟩ : ∃ W2, W2 = W1.alloc (.cells #[.int .u8 0, .string z, .int .i64 t, .int .u8 ((K : Nat) : Int), .int .i64 VN, .string vz, .slice va vm vc, .slice a3 n3 c3, .int .i64 q] 27) := ⟨_, rfl⟩
  have hb1 : Below w.heap.size w W1 := by rw [hW1]; exact (Below.refl _ _).alloc (Nat.le_refl _) _
  have hb12 : Below W1.heap.size W1 W2 := by rw [hW2]; exact (Below.refl _ _).alloc (Nat.le_refl _) _
  have hs1 : W1.heap.size = w.heap.size + 1 := by rw [hW1]; simp
  have hg7 : W1.heap[w.heap.size]? = some (.cells #[.int .u8 ((K : Nat) : Int), .int .i64 VN, .string vz, .slice va vm vc] 24 (0, 0)) := by rw [hW1]; exact heap_alloc_new _ _
  have hg11 : W2.heap[w.heap.size + 1]? = some (.cells #[.int .u8 0, .string z, .int .i64 t, .int .u8 ((K : Nat) : Int), .int .i64 VN, .string vz, .slice va vm vc, .slice a3 n3 c3, .int .i64 q] 27 (0, 0)) := by rw [hW2, ← hs1]; exact heap_alloc_new _ _
  have hg72 := (hb12.block _ (by omega)).trans hg7
  have hb2 : Below w.heap.size w W2 := hb1.trans (hb12.mono hb1.size)
  have HV4 : Hid (∀ X, Below W2.heap.size W2 X → X.cell? ⟨w.heap.size, 0, none⟩ = some (.int .u8 ((K : Nat) : Int)) ∧ X.cell? ⟨w.heap.size, 1, none⟩ = some (.int .i64 VN) ∧ X.cell? ⟨w.heap.size, 2, none⟩ = some (.string vz) ∧ X.cell? ⟨w.heap.size, 3, none⟩ = some (.slice va vm vc)) := fun X hX => (cells4 ((hX.block _ (Array.getElem?_eq_some_iff.1 hg72).1).trans hg72)).1
  have HAT : Hid ((⟨0, s, t, v, l, q⟩ : OD).At (fun _ => True) W2 (.agg #[.int .u8 0, .string z, .int .i64 t, .int .u8 ((K : Nat) : Int), .int .i64 VN, .string vz, .slice va vm vc, .slice a3 n3 c3, .int .i64 q])) := OD.Parts.at ⟨rfl, hz, rfl, rfl, ⟨by show (0 : Nat) < 256; omega, hs, ht, hq⟩, hV.later hb2, hL.later hb2⟩
  obtain ⟨⟨e0, e1, e2, e3⟩, -⟩ := cells4 hg7
  obtain ⟨d0, d1, d2, d3, d4, d5, d6, d7, d8⟩ := cells9 hg11
  have HB := hide hb2
  have HS1 := hide hs1
  have HW2 := hide hW2
  have HSL := hide hs
  have HTR := hide ht
  have HQR := hide hq
  rw [← hz]
  clear hz hs ht hV hL hq hT hb1 hb12 hs1 hg7 hg11 hg72 hb2 hW2
  go_enter Tryd.func5, Tryd.ntmps5
  go_upto_region 1 with fail
  rw [← hW1]
  clear hW1
  go_upto_region 2 with fail
  rw [← unhide HW2, unhide HS1]
  clear HW2 HS1 e0 e1 e2 e3
  go_wp2_with fail
  refine (oFew_any ⟨0, s, t, v, l, q⟩ _ _ W2 (unhide HAT)).mono ?_
  rintro e w3 ⟨⟨f1, rfl, hf1⟩, hb3⟩
  have HB23 := hide hb3
  have HF1 := hide hf1
  obtain ⟨e0, e1, e2, e3⟩ := unhide HV4 _ hb3
  have HB2 := hide ((unhide HB).trans (hb3.mono (unhide HB).size))
  clear hb3 hf1 d0 d1 d2 d3 d4 d5 d6 d7 d8 HAT HB
  have HB := hide (unhide HB2)
  clear HB2
  cases f1 with
  | false =>
    go_wp2_with fail
    refine (unhide HAW _ (unhide HB)).mono ?_
    rintro e w9 ⟨rfl, hb9⟩
    have HB9 := hide hb9
    clear hb9
    go_wp2_with fail
    go_ret
    exact ⟨rfl, unhide HB9⟩
  | true =>
  have HLT : Hid (v.parts ≤ 1000000 ∧ v.deep ≤ 1000) := by
    have h := (unhide HF1 rfl).1
    have h1 : v.deep ≤ 20 := h.1
    have h2 : v.parts ≤ 600 := h.2
    exact ⟨by omega, by omega⟩
  clear HF1
  obtain ⟨bi, hbi⟩ : ∃ bi, bi = idB s := ⟨_, rfl⟩
  rw [← hbi] at HID
  have HBI := hide hbi
  clear hbi
  go_wp2_with fail
  refine (unhide HID _).mono ?_
  rintro e w9 ⟨rfl, hw⟩
  rw [hw]
  clear hw w9 HID
  cases bi with
  | false =>
    go_wp2_with fail
    refine (unhide HAW _ (unhide HB)).mono ?_
    rintro e w9 ⟨rfl, hb9⟩
    have HB9 := hide hb9
    clear hb9
    go_wp2_with fail
    go_ret
    exact ⟨rfl, unhide HB9⟩
  | true =>
  by_cases ht1 : t < 1
  · have ht1d : decide (t < 1) = true := decide_eq_true ht1
    go_wp2_with fail
    refine (unhide HAW _ (unhide HB)).mono ?_
    rintro e w9 ⟨rfl, hb9⟩
    have HB9 := hide hb9
    clear hb9
    go_wp2_with fail
    go_ret
    exact ⟨rfl, unhide HB9⟩
  have ht1d : decide (t < 1) = false := decide_eq_false ht1
  have HT1 : Hid (1 ≤ t) := by show _ ≤ _; omega
  go_wp2_with fail
  refine (right_any v _ _ w3 (unhide HAX _ (unhide HB)).1).mono ?_
  rintro e w4 ⟨rfl, hb4⟩
  have HB24 := hide ((unhide HB23).trans (hb4.mono (unhide HB23).size))
  have HB2 := hide ((unhide HB).trans (hb4.mono (unhide HB).size))
  clear hb4 HB HB23 e0 e1 e2 e3
  have HB := hide (unhide HB2)
  clear HB2
  obtain ⟨e0, e1, e2, e3⟩ := unhide HV4 _ (unhide HB24)
  obtain ⟨vr, hvr⟩ : ∃ vr, vr = v.right := ⟨_, rfl⟩
  rw [← hvr]
  have HVR := hide hvr
  clear hvr
  cases vr with
  | false =>
    go_wp2_with fail
    refine (unhide HAW _ (unhide HB)).mono ?_
    rintro e w9 ⟨rfl, hb9⟩
    have HB9 := hide hb9
    clear hb9
    go_wp2_with fail
    go_ret
    exact ⟨rfl, unhide HB9⟩
  | true =>
  go_wp2_with fail
  refine (fRight_any l _ _ w4 (unhide HAX _ (unhide HB)).2.1).mono ?_
  rintro e w5 ⟨rfl, hb5⟩
  have HB25 := hide ((unhide HB24).trans (hb5.mono (unhide HB24).size))
  have HB2 := hide ((unhide HB).trans (hb5.mono (unhide HB).size))
  clear hb5 HB HB24 e0 e1 e2 e3
  have HB := hide (unhide HB2)
  clear HB2
  obtain ⟨e0, e1, e2, e3⟩ := unhide HV4 _ (unhide HB25)
  obtain ⟨lr, hlr⟩ : ∃ lr, lr = rightF l := ⟨_, rfl⟩
  rw [← hlr]
  have HLR := hide hlr
  clear hlr
  cases lr with
  | false =>
    go_wp2_with fail
    refine (unhide HAW _ (unhide HB)).mono ?_
    rintro e w9 ⟨rfl, hb9⟩
    have HB9 := hide hb9
    clear hb9
    go_wp2_with fail
    go_ret
    exact ⟨rfl, unhide HB9⟩
  | true =>
  by_cases hq1 : q < 1
  · have hq1d : decide (q < 1) = true := decide_eq_true hq1
    go_wp2_with fail
    refine (unhide HAW _ (unhide HB)).mono ?_
    rintro e w9 ⟨rfl, hb9⟩
    have HB9 := hide hb9
    clear hb9
    go_wp2_with fail
    go_ret
    exact ⟨rfl, unhide HB9⟩
  have hq1d : decide (q < 1) = false := decide_eq_false hq1
  by_cases hq4 : q > 400
  · have hq4d : decide (q > 400) = true := decide_eq_true hq4
    go_wp2_with fail
    refine (unhide HAW _ (unhide HB)).mono ?_
    rintro e w9 ⟨rfl, hb9⟩
    have HB9 := hide hb9
    clear hb9
    go_wp2_with fail
    go_ret
    exact ⟨rfl, unhide HB9⟩
  have hq4d : decide (q > 400) = false := decide_eq_false hq4
  have HQ1 : Hid (1 ≤ q ∧ q ≤ 400) := ⟨by omega, by omega⟩
  go_wp2_with fail
  refine (same_any v zeroD _ _ _ _ w5 (unhide HAX _ (unhide HB)).1 (zero_at (fun _ => True) _) (unhide HLT).1 (unhide HLT).2).mono ?_
  rintro e w6 ⟨rfl, hb6⟩
  have HB26 := hide ((unhide HB25).trans (hb6.mono (unhide HB25).size))
  have HB2 := hide ((unhide HB).trans (hb6.mono (unhide HB).size))
  clear hb6 HB HB25 e0 e1 e2 e3
  have HB := hide (unhide HB2)
  clear HB2
  obtain ⟨vz0, hvz⟩ : ∃ vz0, vz0 = v.same zeroD := ⟨_, rfl⟩
  rw [← hvz]
  have HVZ := hide hvz
  clear hvz
  cases vz0 with
  | true =>
    go_wp2_with fail
    refine (unhide HAW _ (unhide HB)).mono ?_
    rintro e w9 ⟨rfl, hb9⟩
    have HB9 := hide hb9
    clear hb9
    go_wp2_with fail
    go_ret
    exact ⟨rfl, unhide HB9⟩
  | false =>
  by_cases hn0 : n3 = 0
  · have g0 : (((n3 : Nat) : Int) == 0) = true := by rw [beq_iff_eq]; omega
    have g0n : (n3 == 0) = true := by rw [beq_iff_eq]; exact hn0
    go_wp2_with fail
    refine (unhide HAW _ (unhide HB)).mono ?_
    rintro e w9 ⟨rfl, hb9⟩
    have HB9 := hide hb9
    clear hb9
    go_wp2_with fail
    go_ret
    exact ⟨rfl, unhide HB9⟩
  have g0 : (((n3 : Nat) : Int) == 0) = false := by rw [beq_eq_false_iff_ne]; omega
  have g0n : (n3 == 0) = false := by rw [beq_eq_false_iff_ne]; exact hn0
  have HMR : Hid (∀ N f0 f1 f2 f3 f4, (maskO N s t v l q f0 f1 f2 f3 f4).right = OD.form N f2 f3 true true true f2 f3 f4 f0 f1) := fun N f0 f1 f2 f3 f4 => mask_right (unhide HBI).symm (unhide HT1) (unhide HVR).symm (unhide HLR).symm (unhide HQ1) (unhide HVZ).symm (fun e => hn0 (by rw [unhide HNL, e]; rfl))
  clear ht1 hq1 hq4 hn0 HBI HT1 HVR HLR HQ1 HVZ HNL
  go_wp2_with fail
  clear g0 g0n ht1d hq1d hq4d
  go_loopw [63] (fun k W => ∃ N : Nat, N ≤ 7 ∧ k = .int .u8 ((N : Nat) : Int) ∧ Below W2.heap.size W2 W ∧ Below w.heap.size w W) (fun k _ => 7 - (intOf k).toNat)
  case atStart => exact ⟨0, by omega, rfl, unhide HB26, unhide HB⟩
  case round =>
    obtain ⟨N, hN, rfl, hb2, hbw⟩ := hrel
    have HBA := hide hb2
    have HBW := hide hbw
    clear hb2 hbw HB HB26
    by_cases hlt : N < 7
    · have hji : ((N : Nat) : Int) < 7 := by omega
      have HN7 : Hid (N < 7) := hlt
      generalize wr = W9 at *
      go_wp2_with fail
      go_loopw [66] (fun k W => ∃ M : Nat, M ≤ 32 ∧ k = .int .i64 ((M : Nat) : Int) ∧ Below W2.heap.size W2 W ∧ Below w.heap.size w W) (fun k _ => 32 - (intOf k).toNat)
      case atStart => exact ⟨0, by omega, rfl, unhide HBA, unhide HBW⟩
      case round =>
        obtain ⟨M, hM, rfl, hb2, hbw⟩ := hrel
        have HBA2 := hide hb2
        have HBW2 := hide hbw
        clear hb2 hbw HBA HBW
        by_cases hlt2 : M < 32
        · have hji2 : ((M : Nat) : Int) < 32 := by omega
          obtain ⟨f0, f1, f2, f3, f4, hMb⟩ := mask_of ⟨M, hlt2⟩
          obtain ⟨x0, x1, x2, x3, x4, y1, y2, y3, y4, y5⟩ := mask_facts f0 f1 f2 f3 f4
          have hMb' : M = OD.bits f0 f1 f2 f3 f4 := hMb
          rw [← hMb'] at x0 x1 x2 x3 x4 y1 y2 y3 y4 y5
          have HY : Hid ((bits .andNot .i64 ((M : Nat) : Int) 3 == 0) = (!f2 && !f3 && !f4) ∧ (((M : Nat) : Int) == 4) = (f2 && !f3 && !f4 && !f0 && !f1) ∧ (bits .and .i64 ((M : Nat) : Int) 12 == 12) = (f2 && f3) ∧ (bits .and .i64 ((M : Nat) : Int) 2 == 0) = (!f1) ∧ (((M : Nat) : Int) == 12) = (f2 && f3 && !f4 && !f0 && !f1)) := ⟨y1, y2, y3, y4, y5⟩
          clear hMb hMb' y1 y2 y3 y4 y5
          obtain ⟨V1, hV1⟩ : ∃ V1, V1 = wr.alloc (.cells #[.int .u8 ((N : Nat) : Int), .string ⟨#[]⟩, .int .i64 0, .int .u8 0, .int .i64 0, .string ⟨#[]⟩, .slice none 0 0, .slice none 0 0, .int .i64 0] 27) := ⟨_, rfl⟩
          have hb1 : Below wr.heap.size wr V1 := by rw [hV1]; exact (Below.refl _ _).alloc (Nat.le_refl _) _
          have hr1 : V1.heap[wr.heap.size]? = some (.cells #[.int .u8 ((N : Nat) : Int), .string ⟨#[]⟩, .int .i64 0, .int .u8 0, .int .i64 0, .string ⟨#[]⟩, .slice none 0 0, .slice none 0 0, .int .i64 0] 27 (0, 0)) := by rw [hV1]; exact heap_alloc_new _ _
          obtain ⟨G, hG⟩ : ∃ G, G = wr.heap.size := ⟨_, rfl⟩
          have HB1 := hide hb1
          have HR1 := hide hr1
          have HV1 := hide hV1
          have HGS : Hid (W2.heap.size ≤ wr.heap.size ∧ w.heap.size ≤ wr.heap.size) := ⟨(unhide HBA2).size, (unhide HBW2).size⟩
          clear hb1 hr1 hV1 hG G
          go_upto_region 11 with fail
          rw [← unhide HV1]
          clear HV1
          go_upto_if 73 with fail
          go_cut [] (fun wx => ∃ (fb : Option Addr) (fk fd : Nat), wx.heap[wr.heap.size]? = some (.cells #[.int .u8 ((N : Nat) : Int), .string ⟨#[]⟩, .int .i64 0, .int .u8 0, .int .i64 0, .string ⟨#[]⟩, .slice none 0 0, .slice fb fk fd, .int .i64 0] 27 (0, 0)) ∧ (∀ X, Below w.heap.size w X → FragAt (fun _ => True) X (if f0 then l else []) (.slice fb fk fd)) ∧ Below wr.heap.size wr wx)
          case first =>
            have fz : ∀ i, V1.frozen? ⟨wr.heap.size, i, none⟩ = false := fun i => frozen_of_row _ _ _ _ _ (unhide HR1)
            obtain ⟨d0, d1, d2, d3, d4, d5, d6, d7, d8⟩ := cells9 (unhide HR1)
            have g7 := fz 7
            cases f0 with
            | true =>
              have HE : Hid (∃ (fb : Option Addr) (fk fd : Nat), (V1.setCell ⟨wr.heap.size, 7, none⟩ (.slice a3 n3 c3)).heap[wr.heap.size]? = some (.cells #[.int .u8 ((N : Nat) : Int), .string ⟨#[]⟩, .int .i64 0, .int .u8 0, .int .i64 0, .string ⟨#[]⟩, .slice none 0 0, .slice fb fk fd, .int .i64 0] 27 (0, 0)) ∧ (∀ X, Below w.heap.size w X → FragAt (fun _ => True) X (if true then l else []) (.slice fb fk fd)) ∧ Below wr.heap.size wr (V1.setCell ⟨wr.heap.size, 7, none⟩ (.slice a3 n3 c3))) := ⟨a3, n3, c3, (heap_setCell_same _ _ _ _ _ _ (unhide HR1)), fun X hX => (unhide HAX X hX).2.1, ((unhide HB1).setCell (p := ⟨wr.heap.size, 7, none⟩) (Nat.le_refl _) _)⟩
              go_wp2_with fail
              go_meet
              exact unhide HE
            | false =>
              have HE : Hid (∃ (fb : Option Addr) (fk fd : Nat), V1.heap[wr.heap.size]? = some (.cells #[.int .u8 ((N : Nat) : Int), .string ⟨#[]⟩, .int .i64 0, .int .u8 0, .int .i64 0, .string ⟨#[]⟩, .slice none 0 0, .slice fb fk fd, .int .i64 0] 27 (0, 0)) ∧ (∀ X, Below w.heap.size w X → FragAt (fun _ => True) X (if false then l else []) (.slice fb fk fd)) ∧ Below wr.heap.size wr V1) := ⟨none, 0, 0, unhide HR1, fun _ _ => FragAt.nil _ _, unhide HB1⟩
              go_wp2_with fail
              go_meet
              exact unhide HE
          obtain ⟨fb, fk, fd, hrow, hfact, hbel⟩ := hcut
          have HRo0 := hide hrow
          have HFA0 := hide hfact
          have HBo0 := hide hbel
          clear hrow hfact hbel x0 HR1 HB1
          generalize wc = C1 at *
          go_upto_if 78 with fail
          go_cut [] (fun wx => ∃ (q1 : Int), wx.heap[wr.heap.size]? = some (.cells #[.int .u8 ((N : Nat) : Int), .string ⟨#[]⟩, .int .i64 0, .int .u8 0, .int .i64 0, .string ⟨#[]⟩, .slice none 0 0, .slice fb fk fd, .int .i64 q1] 27 (0, 0)) ∧ q1 = (if f1 then q else 0) ∧ Below wr.heap.size wr wx)
          case first =>
            have fz : ∀ i, C1.frozen? ⟨wr.heap.size, i, none⟩ = false := fun i => frozen_of_row _ _ _ _ _ (unhide HRo0)
            obtain ⟨d0, d1, d2, d3, d4, d5, d6, d7, d8⟩ := cells9 (unhide HRo0)
            have g8 := fz 8
            cases f1 with
            | true =>
              have HE : Hid (∃ (q1 : Int), (C1.setCell ⟨wr.heap.size, 8, none⟩ (.int .i64 q)).heap[wr.heap.size]? = some (.cells #[.int .u8 ((N : Nat) : Int), .string ⟨#[]⟩, .int .i64 0, .int .u8 0, .int .i64 0, .string ⟨#[]⟩, .slice none 0 0, .slice fb fk fd, .int .i64 q1] 27 (0, 0)) ∧ q1 = (if true then q else 0) ∧ Below wr.heap.size wr (C1.setCell ⟨wr.heap.size, 8, none⟩ (.int .i64 q))) := ⟨q, (heap_setCell_same _ _ _ _ _ _ (unhide HRo0)), rfl, ((unhide HBo0).setCell (p := ⟨wr.heap.size, 8, none⟩) (Nat.le_refl _) _)⟩
              go_wp2_with fail
              go_meet
              exact unhide HE
            | false =>
              have HE : Hid (∃ (q1 : Int), C1.heap[wr.heap.size]? = some (.cells #[.int .u8 ((N : Nat) : Int), .string ⟨#[]⟩, .int .i64 0, .int .u8 0, .int .i64 0, .string ⟨#[]⟩, .slice none 0 0, .slice fb fk fd, .int .i64 q1] 27 (0, 0)) ∧ q1 = (if false then q else 0) ∧ Below wr.heap.size wr C1) := ⟨0, unhide HRo0, rfl, unhide HBo0⟩
              go_wp2_with fail
              go_meet
              exact unhide HE
          obtain ⟨q1, hrow, hfact, hbel⟩ := hcut
          have HRo1 := hide hrow
          have HFA1 := hide hfact
          have HBo1 := hide hbel
          clear hrow hfact hbel x1 HRo0 HBo0
          generalize wc = C2 at *
          go_upto_if 83 with fail
          go_cut [] (fun wx => ∃ (z1 : ByteArray), wx.heap[wr.heap.size]? = some (.cells #[.int .u8 ((N : Nat) : Int), .string z1, .int .i64 0, .int .u8 0, .int .i64 0, .string ⟨#[]⟩, .slice none 0 0, .slice fb fk fd, .int .i64 q1] 27 (0, 0)) ∧ z1 = ⟨(if f2 then s else []).toArray⟩ ∧ Below wr.heap.size wr wx)
          case first =>
            have fz : ∀ i, C2.frozen? ⟨wr.heap.size, i, none⟩ = false := fun i => frozen_of_row _ _ _ _ _ (unhide HRo1)
            obtain ⟨d0, d1, d2, d3, d4, d5, d6, d7, d8⟩ := cells9 (unhide HRo1)
            have g1 := fz 1
            cases f2 with
            | true =>
              have HE : Hid (∃ (z1 : ByteArray), (C2.setCell ⟨wr.heap.size, 1, none⟩ (.string z)).heap[wr.heap.size]? = some (.cells #[.int .u8 ((N : Nat) : Int), .string z1, .int .i64 0, .int .u8 0, .int .i64 0, .string ⟨#[]⟩, .slice none 0 0, .slice fb fk fd, .int .i64 q1] 27 (0, 0)) ∧ z1 = ⟨(if true then s else []).toArray⟩ ∧ Below wr.heap.size wr (C2.setCell ⟨wr.heap.size, 1, none⟩ (.string z))) := ⟨z, (heap_setCell_same _ _ _ _ _ _ (unhide HRo1)), unhide HZ, ((unhide HBo1).setCell (p := ⟨wr.heap.size, 1, none⟩) (Nat.le_refl _) _)⟩
              go_wp2_with fail
              go_meet
              exact unhide HE
            | false =>
              have HE : Hid (∃ (z1 : ByteArray), C2.heap[wr.heap.size]? = some (.cells #[.int .u8 ((N : Nat) : Int), .string z1, .int .i64 0, .int .u8 0, .int .i64 0, .string ⟨#[]⟩, .slice none 0 0, .slice fb fk fd, .int .i64 q1] 27 (0, 0)) ∧ z1 = ⟨(if false then s else []).toArray⟩ ∧ Below wr.heap.size wr C2) := ⟨⟨#[]⟩, unhide HRo1, rfl, unhide HBo1⟩
              go_wp2_with fail
              go_meet
              exact unhide HE
          obtain ⟨z1, hrow, hfact, hbel⟩ := hcut
          have HRo2 := hide hrow
          have HFA2 := hide hfact
          have HBo2 := hide hbel
          clear hrow hfact hbel x2 HRo1 HBo1
          generalize wc = C3 at *
          go_upto_if 88 with fail
          go_cut [] (fun wx => ∃ (t1 : Int), wx.heap[wr.heap.size]? = some (.cells #[.int .u8 ((N : Nat) : Int), .string z1, .int .i64 t1, .int .u8 0, .int .i64 0, .string ⟨#[]⟩, .slice none 0 0, .slice fb fk fd, .int .i64 q1] 27 (0, 0)) ∧ t1 = (if f3 then t else 0) ∧ Below wr.heap.size wr wx)
          case first =>
            have fz : ∀ i, C3.frozen? ⟨wr.heap.size, i, none⟩ = false := fun i => frozen_of_row _ _ _ _ _ (unhide HRo2)
            obtain ⟨d0, d1, d2, d3, d4, d5, d6, d7, d8⟩ := cells9 (unhide HRo2)
            have g2 := fz 2
            cases f3 with
            | true =>
              have HE : Hid (∃ (t1 : Int), (C3.setCell ⟨wr.heap.size, 2, none⟩ (.int .i64 t)).heap[wr.heap.size]? = some (.cells #[.int .u8 ((N : Nat) : Int), .string z1, .int .i64 t1, .int .u8 0, .int .i64 0, .string ⟨#[]⟩, .slice none 0 0, .slice fb fk fd, .int .i64 q1] 27 (0, 0)) ∧ t1 = (if true then t else 0) ∧ Below wr.heap.size wr (C3.setCell ⟨wr.heap.size, 2, none⟩ (.int .i64 t))) := ⟨t, (heap_setCell_same _ _ _ _ _ _ (unhide HRo2)), rfl, ((unhide HBo2).setCell (p := ⟨wr.heap.size, 2, none⟩) (Nat.le_refl _) _)⟩
              go_wp2_with fail
              go_meet
              exact unhide HE
            | false =>
              have HE : Hid (∃ (t1 : Int), C3.heap[wr.heap.size]? = some (.cells #[.int .u8 ((N : Nat) : Int), .string z1, .int .i64 t1, .int .u8 0, .int .i64 0, .string ⟨#[]⟩, .slice none 0 0, .slice fb fk fd, .int .i64 q1] 27 (0, 0)) ∧ t1 = (if false then t else 0) ∧ Below wr.heap.size wr C3) := ⟨0, unhide HRo2, rfl, unhide HBo2⟩
              go_wp2_with fail
              go_meet
              exact unhide HE
          obtain ⟨t1, hrow, hfact, hbel⟩ := hcut
          have HRo3 := hide hrow
          have HFA3 := hide hfact
          have HBo3 := hide hbel
          clear hrow hfact hbel x3 HRo2 HBo2
          generalize wc = C4 at *
          go_upto_if 93 with fail
          go_cut [] (fun wx => ∃ (K1 : Nat) (N1 : Int) (zz : ByteArray) (ab : Option Addr) (mb cb : Nat), wx.heap[wr.heap.size]? = some (.cells #[.int .u8 ((N : Nat) : Int), .string z1, .int .i64 t1, .int .u8 ((K1 : Nat) : Int), .int .i64 N1, .string zz, .slice ab mb cb, .slice fb fk fd, .int .i64 q1] 27 (0, 0)) ∧ (if f4 then v else zeroD).At (fun _ => True) wx (.agg #[.int .u8 ((K1 : Nat) : Int), .int .i64 N1, .string zz, .slice ab mb cb]) ∧ Below wr.heap.size wr wx)
          case first =>
            have fz : ∀ i, C4.frozen? ⟨wr.heap.size, i, none⟩ = false := fun i => frozen_of_row _ _ _ _ _ (unhide HRo3)
            obtain ⟨d0, d1, d2, d3, d4, d5, d6, d7, d8⟩ := cells9 (unhide HRo3)
            obtain ⟨e0, e1, e2, e3⟩ := unhide HV4 _ ((unhide HBA2).trans ((unhide HBo3).mono (unhide HBA2).size))
            have g3 := fz 3
            have g4 := fz 4
            have g5 := fz 5
            have g6 := fz 6
            cases f4 with
            | true =>
              have HE : Hid (∃ (K1 : Nat) (N1 : Int) (zz : ByteArray) (ab : Option Addr) (mb cb : Nat), ((((C4.setCell ⟨wr.heap.size, 3, none⟩ (.int .u8 ((K : Nat) : Int))).setCell ⟨wr.heap.size, 4, none⟩ (.int .i64 VN)).setCell ⟨wr.heap.size, 5, none⟩ (.string vz)).setCell ⟨wr.heap.size, 6, none⟩ (.slice va vm vc)).heap[wr.heap.size]? = some (.cells #[.int .u8 ((N : Nat) : Int), .string z1, .int .i64 t1, .int .u8 ((K1 : Nat) : Int), .int .i64 N1, .string zz, .slice ab mb cb, .slice fb fk fd, .int .i64 q1] 27 (0, 0)) ∧ (if true then v else zeroD).At (fun _ => True) ((((C4.setCell ⟨wr.heap.size, 3, none⟩ (.int .u8 ((K : Nat) : Int))).setCell ⟨wr.heap.size, 4, none⟩ (.int .i64 VN)).setCell ⟨wr.heap.size, 5, none⟩ (.string vz)).setCell ⟨wr.heap.size, 6, none⟩ (.slice va vm vc)) (.agg #[.int .u8 ((K1 : Nat) : Int), .int .i64 N1, .string zz, .slice ab mb cb]) ∧ Below wr.heap.size wr ((((C4.setCell ⟨wr.heap.size, 3, none⟩ (.int .u8 ((K : Nat) : Int))).setCell ⟨wr.heap.size, 4, none⟩ (.int .i64 VN)).setCell ⟨wr.heap.size, 5, none⟩ (.string vz)).setCell ⟨wr.heap.size, 6, none⟩ (.slice va vm vc))) := ⟨K, VN, vz, va, vm, vc, (heap_setCell_same _ _ _ _ _ _ (heap_setCell_same _ _ _ _ _ _ (heap_setCell_same _ _ _ _ _ _ (heap_setCell_same _ _ _ _ _ _ (unhide HRo3))))), (unhide HAX _ ((unhide HBW2).trans ((((((unhide HBo3).setCell (p := ⟨wr.heap.size, 3, none⟩) (Nat.le_refl _) _).setCell (p := ⟨wr.heap.size, 4, none⟩) (Nat.le_refl _) _).setCell (p := ⟨wr.heap.size, 5, none⟩) (Nat.le_refl _) _).setCell (p := ⟨wr.heap.size, 6, none⟩) (Nat.le_refl _) _).mono (unhide HBW2).size))).1, (((((unhide HBo3).setCell (p := ⟨wr.heap.size, 3, none⟩) (Nat.le_refl _) _).setCell (p := ⟨wr.heap.size, 4, none⟩) (Nat.le_refl _) _).setCell (p := ⟨wr.heap.size, 5, none⟩) (Nat.le_refl _) _).setCell (p := ⟨wr.heap.size, 6, none⟩) (Nat.le_refl _) _)⟩
              go_wp2_with fail
              go_meet
              exact unhide HE
            | false =>
              have HE : Hid (∃ (K1 : Nat) (N1 : Int) (zz : ByteArray) (ab : Option Addr) (mb cb : Nat), C4.heap[wr.heap.size]? = some (.cells #[.int .u8 ((N : Nat) : Int), .string z1, .int .i64 t1, .int .u8 ((K1 : Nat) : Int), .int .i64 N1, .string zz, .slice ab mb cb, .slice fb fk fd, .int .i64 q1] 27 (0, 0)) ∧ (if false then v else zeroD).At (fun _ => True) C4 (.agg #[.int .u8 ((K1 : Nat) : Int), .int .i64 N1, .string zz, .slice ab mb cb]) ∧ Below wr.heap.size wr C4) := ⟨0, 0, ⟨#[]⟩, none, 0, 0, unhide HRo3, zero_at _ _, unhide HBo3⟩
              go_wp2_with fail
              go_meet
              exact unhide HE
          obtain ⟨K1, N1, zz, ab, mb, cb, hrow, hfact, hbel⟩ := hcut
          have HRo4 := hide hrow
          have HFA4 := hide hfact
          have HBo4 := hide hbel
          clear hrow hfact hbel x4 HRo3 HBo3
          generalize wc = C5 at *
          have HRIGHT : Hid (Calls Tryd.prog 10 #[.agg #[.int .u8 ((N : Nat) : Int), .string z1, .int .i64 t1, .int .u8 ((K1 : Nat) : Int), .int .i64 N1, .string zz, .slice ab mb cb, .slice fb fk fd, .int .i64 q1]] C5 fun e w' => e = .returned (.bool (OD.form N f2 f3 true true true f2 f3 f4 f0 f1)) ∧ Below C5.heap.size C5 w') := by
            have h := oRight_any (maskO N s t v l q f0 f1 f2 f3 f4) (fun _ => True) _ C5 (OD.Parts.at (L := N) (s := z1) (t := t1) (K := K1) (N := N1) (z := zz) (a := ab) (m := mb) (c := cb) (fa := fb) (fn := fk) (fc := fd) (q := q1) ⟨rfl, unhide HFA2, unhide HFA3, unhide HFA1, ⟨by have := unhide HN7; show N < 256; omega, ?_, ?_, ?_⟩, unhide HFA4, ?_⟩) (mask_lt (unhide HLT)) (unhide HAX _ ((unhide HBW2).trans ((unhide HBo4).mono (unhide HBW2).size))).2.2
            · rw [unhide HMR] at h
              exact h
            · show (if f2 then s else []).length ≤ maxLen
              cases f2
              · exact Nat.zero_le _
              · exact unhide HSL
            · show InR (if f3 then t else 0)
              cases f3
              · unfold InR; simp
              · exact unhide HTR
            · show InR (if f1 then q else 0)
              cases f1
              · unfold InR; simp
              · exact unhide HQR
            · exact unhide HFA0 _ ((unhide HBW2).trans ((unhide HBo4).mono (unhide HBW2).size))
          clear HFA0 HFA1 HFA2 HFA3 HFA4
          obtain ⟨wb, hwb⟩ : ∃ wb, wb = OD.form N f2 f3 true true true f2 f3 f4 f0 f1 := ⟨_, rfl⟩
          rw [← hwb] at HRIGHT
          have HWB := hide hwb
          clear hwb
          have HWW := hide (unhide HWB)
          obtain ⟨r1, hr1⟩ : ∃ r, r = (!f2 && !f3 && !f4) := ⟨_, rfl⟩
          obtain ⟨r2, hr2⟩ : ∃ r, r = (f2 && !f3 && !f4 && !f0 && !f1) := ⟨_, rfl⟩
          obtain ⟨r3, hr3⟩ : ∃ r, r = (f2 && f3) := ⟨_, rfl⟩
          obtain ⟨r4, hr4⟩ : ∃ r, r = (!f1) := ⟨_, rfl⟩
          obtain ⟨r5, hr5⟩ : ∃ r, r = (f2 && f3 && !f4 && !f0 && !f1) := ⟨_, rfl⟩
          obtain ⟨y1, y2, y3, y4, y5⟩ := unhide HY
          rw [← hr1] at y1
          rw [← hr2] at y2
          rw [← hr3] at y3
          rw [← hr4] at y4
          rw [← hr5] at y5
          have hc : N = 0 ∨ N = 1 ∨ N = 2 ∨ N = 3 ∨ N = 4 ∨ N = 5 ∨ N = 6 := by have := unhide HN7; omega
          have hww : (wb != wb) = false := by cases wb <;> rfl
          clear HY
          obtain ⟨d0, d1, d2, d3, d4, d5, d6, d7, d8⟩ := cells9 (unhide HRo4)
          rcases hc with hN0 | hN0 | hN0 | hN0 | hN0 | hN0 | hN0
          · have e1 : (((N : Nat) : Int) == 1) = false := by rw [hN0]; rfl
            have e2 : (((N : Nat) : Int) == 2) = false := by rw [hN0]; rfl
            have e5 : (((N : Nat) : Int) == 5) = false := by rw [hN0]; rfl
            have e3 : (((N : Nat) : Int) == 3) = false := by rw [hN0]; rfl
            have e4 : (((N : Nat) : Int) == 4) = false := by rw [hN0]; rfl
            have hw1 : wb = false := by rw [unhide HWW, hN0]; rfl
            clear hN0 HWW HWB hr1 hr2 hr3 hr4 hr5
            subst hw1
            go_wp2_with fail
            refine (unhide HRIGHT).mono ?_
            rintro e w9 ⟨rfl, hb9⟩
            have hb10 := (unhide HBo4).trans (hb9.mono (unhide HBo4).size)
            have HB10 := hide hb10
            clear hb9 hb10 d0 d1 d2 d3 d4 d5 d6 d7 d8
            go_wp2_with fail
            exact ⟨⟨M + 1, by omega, by go_num, (unhide HBA2).trans ((unhide HB10).mono (unhide HBA2).size), (unhide HBW2).trans ((unhide HB10).mono (unhide HBW2).size)⟩, by simp [intOf]; omega⟩
          · have e1 : (((N : Nat) : Int) == 1) = true := by rw [hN0]; rfl
            have hw1 : wb = r1 := by rw [unhide HWW, hN0]; rw [hr1]; cases f0 <;> cases f1 <;> cases f2 <;> cases f3 <;> cases f4 <;> rfl
            clear hN0 HWW HWB hr1 hr2 hr3 hr4 hr5
            subst hw1
            go_wp2_with fail
            refine (unhide HRIGHT).mono ?_
            rintro e w9 ⟨rfl, hb9⟩
            have hb10 := (unhide HBo4).trans (hb9.mono (unhide HBo4).size)
            have HB10 := hide hb10
            clear hb9 hb10 d0 d1 d2 d3 d4 d5 d6 d7 d8
            go_wp2_with fail
            exact ⟨⟨M + 1, by omega, by go_num, (unhide HBA2).trans ((unhide HB10).mono (unhide HBA2).size), (unhide HBW2).trans ((unhide HB10).mono (unhide HBW2).size)⟩, by simp [intOf]; omega⟩
          · have e1 : (((N : Nat) : Int) == 1) = false := by rw [hN0]; rfl
            have e2 : (((N : Nat) : Int) == 2) = true := by rw [hN0]; rfl
            have hw1 : wb = r2 := by rw [unhide HWW, hN0]; rw [hr2]; cases f0 <;> cases f1 <;> cases f2 <;> cases f3 <;> cases f4 <;> rfl
            clear hN0 HWW HWB hr1 hr2 hr3 hr4 hr5
            subst hw1
            go_wp2_with fail
            refine (unhide HRIGHT).mono ?_
            rintro e w9 ⟨rfl, hb9⟩
            have hb10 := (unhide HBo4).trans (hb9.mono (unhide HBo4).size)
            have HB10 := hide hb10
            clear hb9 hb10 d0 d1 d2 d3 d4 d5 d6 d7 d8
            go_wp2_with fail
            exact ⟨⟨M + 1, by omega, by go_num, (unhide HBA2).trans ((unhide HB10).mono (unhide HBA2).size), (unhide HBW2).trans ((unhide HB10).mono (unhide HBW2).size)⟩, by simp [intOf]; omega⟩
          · have e1 : (((N : Nat) : Int) == 1) = false := by rw [hN0]; rfl
            have e2 : (((N : Nat) : Int) == 2) = false := by rw [hN0]; rfl
            have e5 : (((N : Nat) : Int) == 5) = false := by rw [hN0]; rfl
            have e3 : (((N : Nat) : Int) == 3) = true := by rw [hN0]; rfl
            have hw1 : wb = (r3 && r4) := by rw [unhide HWW, hN0, hr3, hr4]; cases f0 <;> cases f1 <;> cases f2 <;> cases f3 <;> cases f4 <;> rfl
            clear hN0 HWW HWB hr1 hr2 hr3 hr4 hr5
            cases r3 with
            | false =>
              replace hw1 : wb = false := hw1
              subst hw1
              go_wp2_with fail
              refine (unhide HRIGHT).mono ?_
              rintro e w9 ⟨rfl, hb9⟩
              have hb10 := (unhide HBo4).trans (hb9.mono (unhide HBo4).size)
              have HB10 := hide hb10
              clear hb9 hb10 d0 d1 d2 d3 d4 d5 d6 d7 d8
              go_wp2_with fail
              exact ⟨⟨M + 1, by omega, by go_num, (unhide HBA2).trans ((unhide HB10).mono (unhide HBA2).size), (unhide HBW2).trans ((unhide HB10).mono (unhide HBW2).size)⟩, by simp [intOf]; omega⟩
            | true =>
              replace hw1 : wb = r4 := hw1
              subst hw1
              go_wp2_with fail
              refine (unhide HRIGHT).mono ?_
              rintro e w9 ⟨rfl, hb9⟩
              have hb10 := (unhide HBo4).trans (hb9.mono (unhide HBo4).size)
              have HB10 := hide hb10
              clear hb9 hb10 d0 d1 d2 d3 d4 d5 d6 d7 d8
              go_wp2_with fail
              exact ⟨⟨M + 1, by omega, by go_num, (unhide HBA2).trans ((unhide HB10).mono (unhide HBA2).size), (unhide HBW2).trans ((unhide HB10).mono (unhide HBW2).size)⟩, by simp [intOf]; omega⟩
          · have e1 : (((N : Nat) : Int) == 1) = false := by rw [hN0]; rfl
            have e2 : (((N : Nat) : Int) == 2) = false := by rw [hN0]; rfl
            have e5 : (((N : Nat) : Int) == 5) = false := by rw [hN0]; rfl
            have e3 : (((N : Nat) : Int) == 3) = false := by rw [hN0]; rfl
            have e4 : (((N : Nat) : Int) == 4) = true := by rw [hN0]; rfl
            have hw1 : wb = r5 := by rw [unhide HWW, hN0]; rw [hr5]; cases f0 <;> cases f1 <;> cases f2 <;> cases f3 <;> cases f4 <;> rfl
            clear hN0 HWW HWB hr1 hr2 hr3 hr4 hr5
            subst hw1
            go_wp2_with fail
            refine (unhide HRIGHT).mono ?_
            rintro e w9 ⟨rfl, hb9⟩
            have hb10 := (unhide HBo4).trans (hb9.mono (unhide HBo4).size)
            have HB10 := hide hb10
            clear hb9 hb10 d0 d1 d2 d3 d4 d5 d6 d7 d8
            go_wp2_with fail
            exact ⟨⟨M + 1, by omega, by go_num, (unhide HBA2).trans ((unhide HB10).mono (unhide HBA2).size), (unhide HBW2).trans ((unhide HB10).mono (unhide HBW2).size)⟩, by simp [intOf]; omega⟩
          · have e1 : (((N : Nat) : Int) == 1) = false := by rw [hN0]; rfl
            have e2 : (((N : Nat) : Int) == 2) = false := by rw [hN0]; rfl
            have e5 : (((N : Nat) : Int) == 5) = true := by rw [hN0]; rfl
            have hw1 : wb = r2 := by rw [unhide HWW, hN0]; rw [hr2]; cases f0 <;> cases f1 <;> cases f2 <;> cases f3 <;> cases f4 <;> rfl
            clear hN0 HWW HWB hr1 hr2 hr3 hr4 hr5
            subst hw1
            go_wp2_with fail
            refine (unhide HRIGHT).mono ?_
            rintro e w9 ⟨rfl, hb9⟩
            have hb10 := (unhide HBo4).trans (hb9.mono (unhide HBo4).size)
            have HB10 := hide hb10
            clear hb9 hb10 d0 d1 d2 d3 d4 d5 d6 d7 d8
            go_wp2_with fail
            exact ⟨⟨M + 1, by omega, by go_num, (unhide HBA2).trans ((unhide HB10).mono (unhide HBA2).size), (unhide HBW2).trans ((unhide HB10).mono (unhide HBW2).size)⟩, by simp [intOf]; omega⟩
          · have e1 : (((N : Nat) : Int) == 1) = false := by rw [hN0]; rfl
            have e2 : (((N : Nat) : Int) == 2) = false := by rw [hN0]; rfl
            have e5 : (((N : Nat) : Int) == 5) = false := by rw [hN0]; rfl
            have e3 : (((N : Nat) : Int) == 3) = false := by rw [hN0]; rfl
            have e4 : (((N : Nat) : Int) == 4) = false := by rw [hN0]; rfl
            have hw1 : wb = false := by rw [unhide HWW, hN0]; rfl
            clear hN0 HWW HWB hr1 hr2 hr3 hr4 hr5
            subst hw1
            go_wp2_with fail
            refine (unhide HRIGHT).mono ?_
            rintro e w9 ⟨rfl, hb9⟩
            have hb10 := (unhide HBo4).trans (hb9.mono (unhide HBo4).size)
            have HB10 := hide hb10
            clear hb9 hb10 d0 d1 d2 d3 d4 d5 d6 d7 d8
            go_wp2_with fail
            exact ⟨⟨M + 1, by omega, by go_num, (unhide HBA2).trans ((unhide HB10).mono (unhide HBA2).size), (unhide HBW2).trans ((unhide HB10).mono (unhide HBW2).size)⟩, by simp [intOf]; omega⟩
        · have hji2 : ¬ ((M : Nat) : Int) < 32 := by omega
          have hNw2 : IntKind.u8.wrap (((N : Nat) : Int) + 1) = ((N : Nat) : Int) + 1 := by rw [IntKind.wrap_u8]; omega
          go_wp2_with fail
          exact ⟨⟨N + 1, by have := unhide HN7; omega, by go_num, unhide HBA2, unhide HBW2⟩, by have := unhide HN7; simp [intOf]; omega⟩
    · have hji : ¬ ((N : Nat) : Int) < 7 := by omega
      go_wp2_with fail
      refine (unhide HAW _ (unhide HBW)).mono ?_
      rintro e w9 ⟨rfl, hb9⟩
      have HB9 := hide hb9
      clear hb9
      go_wp2_with fail
      go_ret
      exact ⟨rfl, unhide HB9⟩
end Go.Proofs.YtdlbpbglidhlfaaDoor
